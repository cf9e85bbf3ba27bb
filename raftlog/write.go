package raftlog

import (
	"slices"

	"dockyard/api"
	"dockyard/config"
)

// Append puts entries behind the last one.
func (l *Log) Append(x []api.Entry) api.Errno {
	if e := readable(slices.Values(x)); e != api.OK {
		return e
	}
	return l.wal.Append(x)
}

// Sync makes the entries durable.
func (l *Log) Sync() api.Errno { return l.wal.Sync() }

// Merge takes over the entries that follow an index in another log, if this log has the term there that the other one has. It answers the last index at which the two are now known to agree, or the index to be tried next.
func (l *Log) Merge(index, term uint64, x []api.Entry) (uint64, bool, api.Errno) {
	if !consecutive(index, x) {
		return 0, false, api.ErrLogRange
	}
	if index < l.begin.Index {
		// The snapshot stands for the entries up to its index: what it holds can't differ.
		known := min(l.begin.Index-index, uint64(len(x)))
		index, term, x = l.begin.Index, l.begin.Term, x[known:]
	}
	if !l.Match(index, term) {
		return l.earlier(index), false, api.OK
	}
	if e := l.takeOver(x); e != api.OK {
		return 0, false, e
	}
	return index + uint64(len(x)), true, api.OK
}

// consecutive tells whether the indices of entries follow an index, one by one.
func consecutive(index uint64, x []api.Entry) bool {
	for _, e := range x {
		index++
		if e.Index != index {
			return false
		}
	}
	return true
}

// earlier answers the index to be tried after one, from the snapshot's on, at which the terms differ: all entries of one term are skipped together.
func (l *Log) earlier(index uint64) uint64 {
	if index > l.Last() {
		return l.Last()
	}
	term, _ := l.Term(index)
	for index > l.begin.Index && l.Match(index, term) {
		index--
	}
	return index
}

// takeOver writes entries, from the first one on that is not present. Those that the log has in their place are removed: nobody counts on them.
func (l *Log) takeOver(x []api.Entry) api.Errno {
	absent := slices.IndexFunc(x, func(e api.Entry) bool { return !l.Match(e.Index, e.Term) })
	if absent < 0 {
		return api.OK
	}
	from := x[absent].Index
	if _, there := l.Term(from); there {
		if e := l.wal.Truncate(from); e != api.OK {
			return e
		}
	}
	return l.Append(x[absent:])
}

// Compact lets the log begin after a later snapshot of its own entries.
func (l *Log) Compact(s api.Snapshot) api.Errno {
	if e := config.Check(s.Config); e != api.OK {
		return e
	}
	// The index after the greatest one is 0, after which nothing could follow.
	if s.Index+1 == 0 || !l.Match(s.Index, s.Term) {
		return api.ErrLogRange
	}
	l.follow(s)
	return l.wal.Compact(s.Index)
}

// Install lets the log begin after a snapshot of another log, which is ahead, without an entry.
func (l *Log) Install(s api.Snapshot) api.Errno {
	if e := config.Check(s.Config); e != api.OK {
		return e
	}
	if s.Index <= l.begin.Index {
		return api.ErrLogRange
	}
	if e := l.wal.Reset(s.Index); e != api.OK {
		return e
	}
	l.follow(s)
	return api.OK
}
