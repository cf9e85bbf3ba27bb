package raftlog_test

import (
	"testing"

	"dockyard/api"
	"dockyard/disk"
	"dockyard/raftlog"
	"dockyard/wal"
)

// refuses fails the test unless Open answers nothing but an error, and leaves the wal's disk as it is.
func refuses(t *testing.T, what string, w *wal.Wal, d *disk.Disk, s api.Snapshot, want api.Errno) {
	t.Helper()
	before := look(d)
	l, e := raftlog.Open(w, s)
	answers(t, what, e, want)
	if l != nil || look(d) != before {
		t.Errorf("%s: Open answers a log: %v; the disk is %s, was %s", what, l != nil, look(d), before)
	}
}

// P15.1: a snapshot is refused ahead of all else, for its configuration, and then for its index.
func TestOpenRefused(t *testing.T) {
	for _, c := range refused() {
		for _, index := range []uint64{0, 1, 2, 9, greatest - 1, greatest} {
			w, d := walWith(t, 1, 1, append(put("a", 1, 1, 1), broken(3, 1)[0]))
			refuses(t, "a configuration", w, d, api.Snapshot{Index: index, Term: 1, Config: c}, api.ErrConfigForm)
		}
	}
	for _, term := range []uint64{0, 1, greatest} {
		w, d := walWith(t, 1, greatest, put("a", greatest, 1))
		refuses(t, "the greatest index", w, d, after(greatest, term), api.ErrLogRange)
		w, d = walWith(t, 1, 1, broken(1, 1)[:1])
		refuses(t, "the greatest index ahead of an entry", w, d, after(greatest, term), api.ErrLogRange)
	}
}

// P15.1: an empty wal, with a snapshot and without one.
func TestOpenEmpty(t *testing.T) {
	w, d := walWith(t, 1, 1, nil)
	before := look(d)
	holds(t, "an empty log", open(t, w, after(0, 0)), after(0, 0), nil)
	if look(d) != before {
		t.Errorf("the disk is %s, was %s", look(d), before)
	}
	for _, s := range []api.Snapshot{after(0, 3), after(1, 1), after(7, 2), after(1<<40, 3), after(greatest-1, 4)} {
		w, d := walWith(t, 1, 1, nil)
		holds(t, "an empty wal", open(t, w, s), s, nil)
		if w.First() != s.Index+1 {
			t.Errorf("the wal begins at %d, after a snapshot at %d", w.First(), s.Index)
		}
		again := open(t, walOn(t, d.Crash(nil), 1), s)
		holds(t, "behind a crash", again, s, nil)
		answers(t, "Append", again.Append(put("a", s.Index+1, 4)), api.OK)
		holds(t, "Append", again, s, put("a", s.Index+1, 4))
	}
}

// P15.1: what Open makes of wals that end before the snapshot, at it and behind it, or begin behind it.
func TestOpenFits(t *testing.T) {
	wide := append(put("a", 3, 1, 1), put("a", 5, 2, 3)...)
	for what, x := range map[string]struct {
		first uint64
		has   []api.Entry
		s     api.Snapshot
		left  int // how many of the last entries are those of the log; -1: the wal was reset; -2: it is refused
	}{
		"ends long before":                   {3, wide, after(9, 3), -1},
		"ends just before":                   {3, wide, after(7, 3), -1},
		"ends just before, of another term":  {3, wide, after(7, 1), -1},
		"ends at it":                         {3, wide, after(6, 3), 0},
		"ends at it, with a lower term":      {3, wide, after(6, 4), -1},
		"ends at it, with a greater term":    {3, wide, after(6, 2), -1},
		"ends behind":                        {3, wide, after(5, 2), 1},
		"ends behind, of another term":       {3, wide, after(5, 1), -1},
		"the first entry":                    {3, wide, after(3, 1), 3},
		"the first entry, of another term":   {3, wide, after(3, 0), -1},
		"begins behind":                      {3, wide, after(2, 1), 4},
		"begins behind, of any term":         {3, wide, after(2, 9), 4},
		"begins further on":                  {3, wide, after(1, 1), -2},
		"begins further on, no snapshot":     {3, wide, after(0, 0), -2},
		"no snapshot":                        {1, put("a", 1, 1, 2), after(0, 0), 2},
		"no snapshot, of a term":             {1, put("a", 1, 1, 2), after(0, 7), 2},
		"none, begins at it":                 {3, nil, after(3, 1), -1},
		"none, begins before":                {3, nil, after(9, 1), -1},
		"none, begins behind":                {3, nil, after(2, 1), 0},
		"none, begins further on":            {3, nil, after(1, 1), -1},
		"none, begins at the greatest index": {greatest, nil, after(0, 0), -1},
		"none, at the edge":                  {greatest, nil, after(greatest-1, 1), 0},
		"one, at the edge":                   {greatest, put("a", greatest, 1), after(greatest-1, 1), 1},
		"one, beyond the edge":               {greatest, put("a", greatest, 1), after(greatest-2, 1), -2},
		"two, at the edge":                   {greatest - 1, put("a", greatest-1, 1, 2), after(greatest-1, 1), 1},
		"two, at the edge, of another term":  {greatest - 1, put("a", greatest-1, 1, 2), after(greatest-1, 2), -1},
	} {
		for _, limit := range []int{1, 1000} {
			w, d := walWith(t, limit, x.first, x.has)
			if x.left == -2 {
				refuses(t, what, w, d, x.s, api.ErrLogRange)
				continue
			}
			twin, other := walWith(t, limit, x.first, x.has)
			want := x.has[len(x.has)-max(x.left, 0):]
			if x.left == -1 {
				must(t, twin.Reset(x.s.Index))
			}
			holds(t, what, open(t, w, x.s), x.s, want)
			if look(d) != look(other) {
				t.Errorf("%s: the disk is %s, want %s", what, look(d), look(other))
			}
		}
	}
}

// rising answers all lists of up to most terms from 1 to 3 that don't decrease.
func rising(most int) [][]uint64 {
	l := [][]uint64{nil}
	for at := 0; at < len(l); at++ {
		terms := l[at]
		if len(terms) == most {
			continue
		}
		for term := uint64(1); term <= 3; term++ {
			if len(terms) == 0 || term >= terms[len(terms)-1] {
				l = append(l, append(append([]uint64{}, terms...), term))
			}
		}
	}
	return l
}

// P15.1: all small wals, with all small snapshots: the answers, the log and the disk are those of the model.
func TestOpenAll(t *testing.T) {
	for _, terms := range rising(3) {
		for _, first := range []uint64{1, 2, 4} {
			for index := range uint64(9) {
				for term := range uint64(5) {
					w, d := walWith(t, 1, first, put("a", first, terms...))
					twin, other := walWith(t, 1, first, put("a", first, terms...))
					l, e := raftlog.Open(w, after(index, term))
					m, want := modelOf(twin, after(index, term))
					if e != want || (l == nil) != (m == nil) || look(d) != look(other) {
						t.Fatalf("Open of terms %v from %d on, after %d of term %d, answers %d, want %d; the disk is %s, want %s", terms, first, index, term, e, want, look(d), look(other))
					}
					if l != nil {
						sees(t, "Open", l, sight(m))
					}
				}
			}
		}
	}
}

// P15.1: data that is no configuration is refused after the snapshot, and not asked for up to it, nor in entries of other kinds.
func TestOpenConfigs(t *testing.T) {
	for _, x := range broken(3, 2) {
		for at, want := range map[uint64]api.Errno{0: api.ErrConfigForm, 1: api.ErrConfigForm, 2: api.ErrConfigForm, 3: api.OK, 4: api.OK} {
			l := append(append(put("a", 1, 2, 2), x), put("a", 4, 2)...)
			w, d := walWith(t, 1000, 1, l)
			s := after(at, 2)
			if want != api.OK {
				refuses(t, "no configuration", w, d, s, want)
				continue
			}
			holds(t, "no configuration in the snapshot", open(t, w, s), s, l[at:])
		}
		w, _ := walWith(t, 1, 3, []api.Entry{x})
		holds(t, "no configuration in what is removed", open(t, w, after(3, 1)), after(3, 1), nil)
		x.Kind = api.EntryCommand
		w, _ = walWith(t, 1, 3, []api.Entry{x})
		holds(t, "no configuration in a command", open(t, w, after(2, 1)), after(2, 1), []api.Entry{x})
	}
	two := []api.Entry{change(t, 1, 1, of(1)), change(t, 2, 1, of(2))}
	w, _ := walWith(t, 1, 1, append(two, broken(3, 1)[0]))
	_, e := raftlog.Open(w, after(0, 0))
	answers(t, "the last one of several", e, api.ErrConfigForm)
	w, _ = walWith(t, 1, 1, two)
	holds(t, "several", open(t, w, after(0, 0)), after(0, 0), two)
	// That the entries begin too far on comes first.
	w, d := walWith(t, 1, 3, broken(3, 1)[:1])
	refuses(t, "two errors", w, d, after(1, 1), api.ErrLogRange)
}

// P15.1: an error of Reset is returned, in each of the cases in which it is called.
func TestOpenFails(t *testing.T) {
	for what, s := range map[string]api.Snapshot{"before": after(9, 2), "another term": after(4, 1)} {
		for at := range 4 {
			w, d := walWith(t, 1, 3, put("a", 3, 2, 2))
			d.Arm(at)
			l, e := raftlog.Open(w, s)
			if e != api.ErrDiskDead || l != nil {
				t.Errorf("%s, at step %d: Open answers %d", what, at, e)
			}
		}
	}
	w, d := walWith(t, 1, 3, nil)
	d.Arm(0)
	if l, e := raftlog.Open(w, after(1, 1)); e != api.ErrDiskDead || l != nil {
		t.Errorf("Open of an empty wal answers %d", e)
	}
	// Where nothing is to be written, a disk that has failed is enough.
	w, d = walWith(t, 1, 3, put("a", 3, 2, 2))
	d.Arm(0)
	answers(t, "Sync", w.Sync(), api.ErrDiskDead)
	holds(t, "a disk that has failed", open(t, w, after(3, 2)), after(3, 2), put("a", 4, 2))
}

// P15.1: the data of a snapshot is ignored, and the configuration is taken over as it is.
func TestOpenSnapshot(t *testing.T) {
	s := api.Snapshot{Index: 4, Term: 2, Config: api.Config{Voters: []int{1, 3}, Learners: []int{0, 7}}, Data: make([]byte, api.MaxSnap+1)}
	w, _ := walWith(t, 1, 1, put("a", 1, 1, 1, 2, 2, 2))
	holds(t, "a snapshot", open(t, w, s), s, put("a", 5, 2))
}
