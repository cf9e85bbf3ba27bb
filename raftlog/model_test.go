package raftlog_test

import (
	"dockyard/api"
	"dockyard/config"
	"dockyard/wal"
)

// A model does to a wal of its own what the document says, in the plainest way. Without a wal it has only the entries that it is given.
type model struct {
	w     *wal.Wal
	begin api.Snapshot
	only  []api.Entry
}

func (m *model) list() []api.Entry {
	if m.w == nil {
		return m.only
	}
	var l []api.Entry
	for i := m.begin.Index; i < m.w.Last(); i++ {
		e, _ := m.w.Get(i + 1)
		l = append(l, e)
	}
	return l
}

func (m *model) First() uint64 { return m.begin.Index + 1 }

func (m *model) Last() uint64 { return m.begin.Index + uint64(len(m.list())) }

func (m *model) LastTerm() uint64 {
	term := m.begin.Term
	for _, e := range m.list() {
		term = e.Term
	}
	return term
}

func (m *model) Term(index uint64) (uint64, bool) {
	if index == m.begin.Index {
		return m.begin.Term, true
	}
	for _, e := range m.list() {
		if e.Index == index {
			return e.Term, true
		}
	}
	return 0, false
}

func (m *model) Entries(from uint64, most int) []api.Entry {
	var l []api.Entry
	for _, e := range m.list() {
		if e.Index >= from && from >= m.First() && len(l) < most {
			l = append(l, e)
		}
	}
	return l
}

func (m *model) Match(index, term uint64) bool {
	here, there := m.Term(index)
	return there && here == term
}

func (m *model) Config() (api.Config, uint64) {
	c, at := m.begin.Config, m.begin.Index
	for _, e := range m.list() {
		if e.Kind == api.EntryConfig {
			c, _ = config.Decode(e.Data)
			at = e.Index
		}
	}
	return c, at
}

func (m *model) ConfigAt(index uint64) api.Config {
	c := m.begin.Config
	for _, e := range m.list() {
		if e.Kind == api.EntryConfig && e.Index <= index {
			c, _ = config.Decode(e.Data)
		}
	}
	return c
}

// modelOf answers what Open makes of a wal.
func modelOf(w *wal.Wal, s api.Snapshot) (*model, api.Errno) {
	if config.Check(s.Config) != api.OK {
		return nil, api.ErrConfigForm
	}
	if s.Index == greatest {
		return nil, api.ErrLogRange
	}
	reset := false
	if w.Last() < s.Index {
		reset = true
	} else if at, _ := w.Get(s.Index); w.First() <= s.Index && at.Term != s.Term {
		reset = true
	} else if w.First() > s.Index+1 {
		if _, some := w.Get(w.First()); some {
			return nil, api.ErrLogRange
		}
		reset = true
	}
	if reset {
		if e := w.Reset(s.Index); e != api.OK {
			return nil, e
		}
	}
	m := &model{w: w, begin: s}
	if !readable(m.list()) {
		return nil, api.ErrConfigForm
	}
	return m, api.OK
}

func readable(l []api.Entry) bool {
	for _, e := range l {
		if _, code := config.Decode(e.Data); e.Kind == api.EntryConfig && code != api.OK {
			return false
		}
	}
	return true
}

func (m *model) append(x []api.Entry) api.Errno {
	if !readable(x) {
		return api.ErrConfigForm
	}
	return m.w.Append(x)
}

func (m *model) merge(index, term uint64, x []api.Entry) (uint64, bool, api.Errno) {
	for i, e := range x {
		if e.Index != index+1+uint64(i) {
			return 0, false, api.ErrLogRange
		}
	}
	if index < m.begin.Index {
		for len(x) > 0 && x[0].Index <= m.begin.Index {
			x = x[1:]
		}
		if len(x) == 0 {
			return m.begin.Index, true, api.OK
		}
		index, term = m.begin.Index, m.begin.Term
	}
	if !m.Match(index, term) {
		return m.next(index), false, api.OK
	}
	for i, e := range x {
		if m.Match(e.Index, e.Term) {
			continue
		}
		if _, there := m.Term(e.Index); there {
			if code := m.w.Truncate(e.Index); code != api.OK {
				return 0, false, code
			}
		}
		if code := m.append(x[i:]); code != api.OK {
			return 0, false, code
		}
		break
	}
	return index + uint64(len(x)), true, api.OK
}

// next answers the index to be tried after one at which the terms differ.
func (m *model) next(index uint64) uint64 {
	if index > m.Last() {
		return m.Last()
	}
	at, _ := m.Term(index)
	found := m.begin.Index
	for i := m.begin.Index; i < index; i++ {
		if term, _ := m.Term(i); term != at {
			found = i
		}
	}
	return found
}

func (m *model) compact(s api.Snapshot) api.Errno {
	if config.Check(s.Config) != api.OK {
		return api.ErrConfigForm
	}
	if s.Index < m.begin.Index || s.Index == greatest || !m.Match(s.Index, s.Term) {
		return api.ErrLogRange
	}
	m.begin = s
	return m.w.Compact(s.Index)
}

func (m *model) install(s api.Snapshot) api.Errno {
	if config.Check(s.Config) != api.OK {
		return api.ErrConfigForm
	}
	if s.Index <= m.begin.Index {
		return api.ErrLogRange
	}
	code := m.w.Reset(s.Index)
	if code == api.OK {
		m.begin = s
	}
	return code
}
