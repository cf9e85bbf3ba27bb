package wal_test

import (
	"fmt"
	"slices"
	"testing"

	"dockyard/api"
	"dockyard/disk"
	"dockyard/entry"
	"dockyard/wal"
)

// A model does to a disk of its own what the document says, in the plainest way.
type model struct {
	d       *disk.Disk
	limit   int
	numbers []uint64
	entries []api.Entry
	broken  api.Errno
}

func (m *model) last() uint64 { return m.numbers[0] + uint64(len(m.entries)) - 1 }

func (m *model) sight() string {
	return fmt.Sprintf("%d-%d %s", m.numbers[0], m.last(), writtenAll(m.entries))
}

// steps does one step after the other, up to the first that fails.
func steps(l ...func() api.Errno) api.Errno {
	for _, do := range l {
		if e := do(); e != api.OK {
			return e
		}
	}
	return api.OK
}

func (m *model) removing(number uint64) func() api.Errno {
	return func() api.Errno { return m.d.Remove(name(number)) }
}

func (m *model) syncing(number uint64) func() api.Errno {
	return func() api.Errno { return m.d.Sync(name(number)) }
}

// after takes over what a call has come to, if the disk has done all its steps.
func (m *model) after(numbers []uint64, entries []api.Entry, l ...func() api.Errno) api.Errno {
	m.broken = steps(l...)
	if m.broken == api.OK {
		m.numbers, m.entries = slices.Clone(numbers), slices.Clone(entries)
	}
	return m.broken
}

func (m *model) append(t *testing.T, l []api.Entry) api.Errno {
	all, numbers := slices.Clone(m.entries), slices.Clone(m.numbers)
	var do []func() api.Errno
	tail, _ := m.d.Read(name(numbers[len(numbers)-1]))
	size := len(tail)
	for _, e := range l {
		term := uint64(0)
		if len(all) > 0 {
			term = all[len(all)-1].Term
		}
		if _, code := entry.Encode(e); code != api.OK || e.Index != numbers[0]+uint64(len(all)) || e.Term < term {
			return api.ErrWalEntry
		}
		if size >= max(m.limit, 1) {
			do = append(do, m.syncing(numbers[len(numbers)-1]))
			numbers = append(numbers, e.Index)
			size = 0
		}
		frame, number := frames(t, e), numbers[len(numbers)-1]
		do = append(do, func() api.Errno { return m.d.Append(name(number), []byte(frame)) })
		size += len(frame)
		all = append(all, e)
	}
	return m.after(numbers, all, do...)
}

func (m *model) sync() api.Errno {
	return m.after(m.numbers, m.entries, m.syncing(m.numbers[len(m.numbers)-1]))
}

func (m *model) truncate(t *testing.T, from uint64) api.Errno {
	first := m.numbers[0]
	if from < first || from > m.last()+1 {
		return api.ErrWalRange
	}
	numbers := slices.Clone(m.numbers)
	var do []func() api.Errno
	for len(numbers) > 1 && numbers[len(numbers)-1] >= from {
		do = append(do, m.removing(numbers[len(numbers)-1]))
		numbers = numbers[:len(numbers)-1]
	}
	tail := numbers[len(numbers)-1]
	end := m.last()
	if len(numbers) < len(m.numbers) {
		end = m.numbers[len(numbers)] - 1
	}
	if from <= end {
		left := len(frames(t, m.entries[tail-first:from-first]...))
		do = append(do, func() api.Errno { return m.d.Truncate(name(tail), left) })
	}
	return m.after(numbers, m.entries[:from-first], do...)
}

func (m *model) compact(upto uint64) api.Errno {
	if upto > m.last() {
		return api.ErrWalRange
	}
	numbers, entries := m.numbers, m.entries
	var do []func() api.Errno
	for len(numbers) > 1 && numbers[1] <= upto+1 {
		do = append(do, m.removing(numbers[0]))
		entries = entries[numbers[1]-numbers[0]:]
		numbers = numbers[1:]
	}
	return m.after(numbers, entries, do...)
}

func (m *model) reset(index uint64) api.Errno {
	if index+1 == 0 {
		return api.ErrWalRange
	}
	var do []func() api.Errno
	for _, number := range slices.Backward(m.numbers) {
		do = append(do, m.removing(number))
	}
	do = append(do, func() api.Errno { return m.d.Append(name(index+1), nil) }, m.syncing(index+1))
	return m.after([]uint64{index + 1}, nil, do...)
}

// modelOf answers the model of a new log.
func modelOf(d *disk.Disk, limit int) *model {
	m := &model{d: d, limit: limit}
	m.reset(0)
	return m
}

// A call is one that writes.
type call struct {
	kind    int
	number  uint64
	entries []api.Entry
}

func (c call) String() string {
	return fmt.Sprintf("%s %d %s", []string{"Append", "Sync", "Truncate", "Compact", "Reset"}[c.kind], c.number, writtenAll(c.entries))
}

func (c call) do(w *wal.Wal) api.Errno {
	switch c.kind {
	case 0:
		return w.Append(c.entries)
	case 1:
		return w.Sync()
	case 2:
		return w.Truncate(c.number)
	case 3:
		return w.Compact(c.number)
	}
	return w.Reset(c.number)
}

func (c call) onModel(t *testing.T, m *model) api.Errno {
	if m.broken != api.OK {
		return m.broken
	}
	switch c.kind {
	case 0:
		return m.append(t, c.entries)
	case 1:
		return m.sync()
	case 2:
		return m.truncate(t, c.number)
	case 3:
		return m.compact(c.number)
	}
	return m.reset(c.number)
}
