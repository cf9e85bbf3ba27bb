package raftlog

import (
	"math"

	"dockyard/api"
	"dockyard/config"
	"dockyard/wal"
)

// Open answers the log that begins after a snapshot, with the entries of a wal.
func Open(w *wal.Wal, s api.Snapshot) (*Log, api.Errno) {
	if e := config.Check(s.Config); e != api.OK {
		return nil, e
	}
	if s.Index == math.MaxUint64 {
		return nil, api.ErrLogRange
	}
	if e := fit(w, s); e != api.OK {
		return nil, e
	}
	if e := readable(w.All(s.Index + 1)); e != api.OK {
		return nil, e
	}
	l := &Log{wal: w}
	l.follow(s)
	return l, api.OK
}

// fit sees to it that no index is missing between a snapshot and a wal's entries. Entries that can't be continued from the snapshot are removed: it counts for more than they do.
func fit(w *wal.Wal, s api.Snapshot) api.Errno {
	at, there := w.Get(s.Index)
	behind := w.First() > s.Index+1
	empty := w.Last() < w.First()
	switch {
	case w.Last() < s.Index, there && at.Term != s.Term, behind && empty:
		return w.Reset(s.Index)
	case behind:
		return api.ErrLogRange
	}
	return api.OK
}
