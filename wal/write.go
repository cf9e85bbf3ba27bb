package wal

import (
	"slices"

	"dockyard/api"
)

// Append puts entries behind the last one.
func (w *Wal) Append(l []api.Entry) api.Errno {
	frames, right := w.framesOf(l)
	return w.write(unless(right, api.ErrWalEntry), func() api.Errno {
		for i, e := range l {
			if code := w.add(e, frames[i]); code != api.OK {
				return code
			}
		}
		return api.OK
	})
}

// Sync makes the entries durable: those of the segments before the last one are already.
func (w *Wal) Sync() api.Errno {
	return w.write(api.OK, func() api.Errno { return w.disk.Sync(fileName(w.tail())) })
}

// Truncate removes the entries from an index on.
func (w *Wal) Truncate(from uint64) api.Errno {
	within := from >= w.First() && from-1 <= w.Last()
	return w.write(unless(within, api.ErrWalRange), func() api.Errno { return w.truncate(from) })
}

// Compact removes the first segments, if they have no entry beyond an index.
func (w *Wal) Compact(upto uint64) api.Errno {
	within := upto <= w.Last()
	return w.write(unless(within, api.ErrWalRange), func() api.Errno { return w.compact(upto) })
}

// Reset removes all entries: the next one is to follow an index.
func (w *Wal) Reset(index uint64) api.Errno {
	within := index+1 != 0
	return w.write(unless(within, api.ErrWalRange), func() api.Errno { return w.reset(index + 1) })
}

// write changes the log on the disk and in memory. If the disk does not do all of it, the memory is as before, and nothing is written from then on.
func (w *Wal) write(refusal api.Errno, change func() api.Errno) api.Errno {
	if w.broken != api.OK {
		return w.broken
	}
	if refusal != api.OK {
		return refusal
	}
	before := w.content
	w.broken = change()
	if w.broken != api.OK {
		w.content = before
	}
	return w.broken
}

func unless(right bool, refusal api.Errno) api.Errno {
	if right {
		return api.OK
	}
	return refusal
}

// framesOf answers entries as they will stand in segments, and whether the log may have them.
func (w *Wal) framesOf(l []api.Entry) ([][]byte, bool) {
	if !w.follows(l...) {
		return nil, false
	}
	var frames [][]byte
	for _, e := range l {
		frame, code := framed(e)
		if code != api.OK {
			return nil, false
		}
		frames = append(frames, frame)
	}
	return frames, true
}

// add writes an entry, to a new segment if the last one is full.
func (w *Wal) add(e api.Entry, frame []byte) api.Errno {
	if w.size() >= w.limit {
		// A crash must not lose entries of a segment while it leaves those of the next one.
		if code := w.disk.Sync(fileName(w.tail())); code != api.OK {
			return code
		}
		w.segments = append(w.segments, e.Index)
	}
	w.records = append(w.records, record{entry: cloned(e), end: w.size() + len(frame)})
	return w.disk.Append(fileName(w.tail()), frame)
}

// remove takes segments away, the last one first, so that a crash in between leaves no gap.
func (w *Wal) remove(numbers []uint64) api.Errno {
	for _, number := range slices.Backward(numbers) {
		if e := w.disk.Remove(fileName(number)); e != api.OK {
			return e
		}
	}
	return api.OK
}

func (w *Wal) truncate(from uint64) api.Errno {
	later := w.segments[1:]
	left, begins := slices.BinarySearch(later, from)
	if e := w.remove(later[left:]); e != api.OK {
		return e
	}
	inside := from <= w.Last() && !begins
	w.segments = w.segments[:1+left]
	// Clipped, so that the next entries do not come to stand where a loop still reads the old ones.
	w.records = slices.Clip(w.records[:from-w.First()])
	if !inside {
		return api.OK
	}
	return w.disk.Truncate(fileName(w.tail()), w.size())
}

func (w *Wal) compact(upto uint64) api.Errno {
	for len(w.segments) > 1 && w.segments[1]-1 <= upto {
		if e := w.disk.Remove(fileName(w.First())); e != api.OK {
			return e
		}
		w.records = w.records[w.segments[1]-w.First():]
		w.segments = w.segments[1:]
	}
	// Copied, so that what was removed is not kept behind the slices.
	w.segments, w.records = slices.Clone(w.segments), slices.Clone(w.records)
	return api.OK
}

func (w *Wal) reset(number uint64) api.Errno {
	if e := w.remove(w.segments); e != api.OK {
		return e
	}
	return w.create(number)
}
