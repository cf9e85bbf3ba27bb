package raftlog_test

import (
	"fmt"
	"slices"
	"strings"
	"testing"

	"dockyard/api"
	"dockyard/disk"
)

// The examples of the chapter.
func TestExamples(t *testing.T) {
	l, d := logOf(t, after(0, 0), nil)
	zero, is := l.Term(0)
	one, not := l.Term(1)
	if l.First() != 1 || l.Last() != 0 || l.LastTerm() != 0 || zero != 0 || !is || one != 0 || not {
		t.Errorf("an empty log: %s", sight(l))
	}
	merges(t, l, 0, 0, put("a", 1, 1, 1), 2, true, api.OK)
	rest(t, "what is present", l, d, func() { merges(t, l, 0, 0, put("a", 1, 1), 1, true, api.OK) })
	merges(t, l, 1, 1, put("b", 2, 3), 2, true, api.OK)
	if l.LastTerm() != 3 {
		t.Errorf("LastTerm is %d", l.LastTerm())
	}
	rest(t, "what can't be merged", l, d, func() {
		merges(t, l, 5, 3, nil, 2, false, api.OK)
		merges(t, l, 2, 9, nil, 1, false, api.OK)
	})
}

// P15.3: entries are appended as the wal does it.
func TestAppend(t *testing.T) {
	l, d := logOf(t, after(2, 5), nil)
	_, other := walWith(t, 1, 3, nil)
	twin := walOn(t, other, 1)
	for _, x := range [][]api.Entry{put("a", 3, 4), nil, {}, put("a", 4, 4, 6), {change(t, 6, 6, of(1))}, {{Index: 7, Term: 7}}} {
		before := d.Steps()
		was := other.Steps()
		answers(t, "Append of "+written(x), l.Append(x), twin.Append(x))
		if d.Steps()-before != other.Steps()-was || contents(d) != contents(other) {
			t.Errorf("Append of %s: the disk is %s, want %s", written(x), contents(d), contents(other))
		}
	}
	holds(t, "Append", l, after(2, 5), append(put("a", 3, 4, 4, 6), change(t, 6, 6, of(1)), api.Entry{Index: 7, Term: 7}))
	for _, x := range [][]api.Entry{put("a", 7, 7), put("a", 9, 7), put("a", 0, 7), put("a", 8, 6), append(put("a", 8, 7), put("a", 10, 7)...), {{Index: 8, Term: 7, Kind: 3}}, {{Index: 8, Term: 7, Kind: -1}}, {{Index: 8, Term: 7, Kind: api.EntryNone, Data: []byte("x")}}, {change(t, 9, 7, of(1))}} {
		rest(t, "what does not follow", l, d, func() { answers(t, "Append of "+written(x), l.Append(x), api.ErrWalEntry) })
	}
	long := []api.Entry{{Index: 8, Term: 7, Kind: api.EntryCommand, Data: []byte(strings.Repeat("x", api.MaxData+1))}}
	rest(t, "too long", l, d, func() { answers(t, "Append of a long entry", l.Append(long), api.ErrWalEntry) })
}

// P15.3: data that is no configuration is refused ahead of what the wal would refuse; nothing is written.
func TestAppendConfigs(t *testing.T) {
	s := after(2, 1)
	for _, x := range broken(3, 1) {
		l, d := logOf(t, s, nil)
		follows := put("a", 4, 1, 1)
		odd, far := x, x
		odd.Index, far.Index, far.Term = 5, 9, 0
		for _, list := range [][]api.Entry{{x}, {x, follows[0]}, {far}, append(put("a", 3, 1, 1), odd), append(put("a", 9, 1), x), {change(t, 3, 1, of(1)), far}} {
			rest(t, "no configuration", l, d, func() { answers(t, "Append of "+written(list), l.Append(list), api.ErrConfigForm) })
		}
		x.Kind = api.EntryCommand
		answers(t, "Append of a command", l.Append([]api.Entry{x}), api.OK)
		d.Arm(0)
		answers(t, "Sync", l.Sync(), api.ErrDiskDead)
		answers(t, "Append on a disk that has failed", l.Append([]api.Entry{odd}), api.ErrConfigForm)
		answers(t, "Append on a disk that has failed", l.Append(follows), api.ErrDiskDead)
		answers(t, "Append of nothing on a disk that has failed", l.Append(nil), api.ErrDiskDead)
	}
	// The kinds beside that of configurations may have such data.
	l, _ := logOf(t, s, nil)
	answers(t, "Append of an entry of no kind", l.Append([]api.Entry{{Index: 3, Term: 1, Kind: 3, Data: []byte("x")}}), api.ErrWalEntry)
}

// P15.3: an error of the wal is returned, and what it had appended is not there.
func TestAppendFails(t *testing.T) {
	s, has := after(2, 1), put("a", 3, 1)
	for at := range 4 {
		l, d := logOf(t, s, has)
		d.Arm(at)
		answers(t, "Append", l.Append([]api.Entry{change(t, 4, 1, of(1)), change(t, 5, 1, of(2))}), api.ErrDiskDead)
		holds(t, "Append on a disk that fails", l, s, has)
	}
	d := disk.New(100)
	w := walOn(t, d, 1000)
	l := open(t, w, after(0, 0))
	must(t, l.Append(put("a", 1, 1)))
	answers(t, "Append", l.Append([]api.Entry{change(t, 2, 1, of(1)), {Index: 3, Term: 1, Kind: api.EntryCommand, Data: make([]byte, 50)}}), api.ErrDiskFull)
	holds(t, "Append on a full disk", l, after(0, 0), put("a", 1, 1))
}

// P15.4: indices that do not follow one another are refused ahead of all else.
func TestMergeRange(t *testing.T) {
	s := after(4, 2)
	l, d := logOf(t, s, put("a", 5, 2, 3))
	bad := broken(6, 3)[0]
	for _, x := range []struct {
		index   uint64
		entries []api.Entry
	}{
		{6, put("b", 6, 3)}, {6, put("b", 8, 3)}, {6, put("b", 0, 3)}, {6, put("b", 5, 3)},
		{6, append(put("b", 7, 3, 3), put("b", 8, 3)...)}, {6, append(put("b", 7, 3, 3), put("b", 10, 3)...)}, {6, append(put("b", 7, 3, 3), put("b", 7, 3)...)},
		{4, put("a", 6, 3)}, {4, append(put("a", 5, 2), put("a", 5, 2)...)},
		{0, put("a", 2, 1)}, {0, put("a", 5, 2)}, {0, append(put("a", 1, 1), put("a", 3, 1)...)}, {1, put("a", 1, 1)}, {3, put("a", 5, 2)},
		{99, put("a", 99, 1)}, {4, []api.Entry{bad}}, {greatest, put("a", 1, 1)}, {greatest, put("a", greatest, 1)}, {greatest - 1, append(put("a", greatest, 1), put("a", 1, 1)...)},
	} {
		rest(t, "indices that don't follow", l, d, func() { merges(t, l, x.index, 3, x.entries, 0, false, api.ErrLogRange) })
	}
	// Behind the greatest index follows 0: which is there in no log, and in no wal.
	rest(t, "indices that follow", l, d, func() {
		merges(t, l, greatest, 3, put("a", 0, 3, 3), 6, false, api.OK)
		merges(t, l, greatest-1, 3, append(put("a", greatest, 3), put("a", 0, 3)...), 6, false, api.OK)
	})
}

// P15.4: behind the greatest index no entry can be had: the wal refuses it.
func TestMergeGreatest(t *testing.T) {
	for _, s := range []api.Snapshot{after(greatest-1, 1), after(greatest-2, 1)} {
		fill := put("a", s.Index+1, 1)
		l, d := logOf(t, s, nil)
		n := s.Index + 1
		merges(t, l, s.Index, 1, fill, n, true, api.OK)
		rest(t, "present", l, d, func() { merges(t, l, s.Index-1, 7, append(put("x", s.Index, 7), fill...), n, true, api.OK) })
		if n != greatest {
			merges(t, l, n, 1, put("a", greatest, 1), greatest, true, api.OK)
		}
		rest(t, "an entry too many", l, d, func() {
			merges(t, l, greatest, 1, put("a", 0, 1), 0, false, api.ErrWalEntry)
			merges(t, l, greatest-1, 1, append(put("a", greatest, 1), put("a", 0, 1)...), 0, false, api.ErrWalEntry)
			merges(t, l, greatest, 2, put("a", 0, 2), s.Index, false, api.OK)
			merges(t, l, greatest, 1, nil, greatest, true, api.OK)
		})
		merges(t, l, greatest-1, 1, append(put("b", greatest, 2), put("b", 0, 2)...), 0, false, api.ErrWalEntry)
		if l.Last() != greatest-1 {
			t.Errorf("what was truncated has come back: Last is %d", l.Last())
		}
		merges(t, l, greatest-1, 1, put("b", greatest, 2), greatest, true, api.OK)
	}
}

// P15.4: the elements up to the snapshot count as present, whatever their terms and data are; the rest follows the snapshot.
func TestMergeBelowSnapshot(t *testing.T) {
	s, has := after(4, 2), put("a", 5, 2, 3)
	for index := range uint64(4) {
		for term := range uint64(4) {
			l, d := logOf(t, s, has)
			below := put("b", index+1, []uint64{9, 1, 9, 1}[:4-index]...)
			rest(t, "all below the snapshot", l, d, func() {
				for many := range len(below) + 1 {
					merges(t, l, index, term, below[:many], 4, true, api.OK)
				}
				merges(t, l, index, term, append(slices.Clone(below), has...), 6, true, api.OK)
				merges(t, l, index, term, append(slices.Clone(below), has[0]), 5, true, api.OK)
			})
			below[0] = broken(index+1, 9)[0]
			merges(t, l, index, term, append(slices.Clone(below), put("c", 5, 2, 4, 4)...), 7, true, api.OK)
			holds(t, "some behind the snapshot", l, s, append(put("a", 5, 2), put("c", 6, 4, 4)...))
			merges(t, l, index, term, append(slices.Clone(below), put("d", 5, 3)...), 5, true, api.OK)
			holds(t, "one behind the snapshot", l, s, put("d", 5, 3))
		}
	}
	l, d := logOf(t, after(greatest-1, 2), nil)
	rest(t, "below the greatest snapshot", l, d, func() {
		merges(t, l, 0, 0, nil, greatest-1, true, api.OK)
		merges(t, l, greatest-2, 9, put("b", greatest-1, 9), greatest-1, true, api.OK)
		// The entry with the index 0 is none up to the snapshot, but one behind the greatest index.
		merges(t, l, greatest-2, 9, append(put("b", greatest-1, 9, 9), put("b", 0, 9)...), 0, false, api.ErrWalEntry)
	})
	merges(t, l, greatest-2, 9, put("b", greatest-1, 9, 9), greatest, true, api.OK)
}

// P15.4: at an index whose term is another one, all entries of the term that is there are skipped together.
func TestMergeMisses(t *testing.T) {
	s, has := after(2, 1), put("a", 3, 1, 1, 2, 2, 2, 4, 4)
	l, d := logOf(t, s, has)
	rest(t, "another term", l, d, func() {
		for index, next := range map[uint64]uint64{2: 2, 3: 2, 4: 2, 5: 4, 6: 4, 7: 4, 8: 7, 9: 7, 10: 9, 11: 9, 99: 9, greatest: 9} {
			for _, term := range []uint64{0, 3, 5, greatest} {
				merges(t, l, index, term, nil, next, false, api.OK)
				merges(t, l, index, term, put("b", index+1, 8), next, false, api.OK)
				// What is to be appended is not asked for yet.
				merges(t, l, index, term, broken(index+1, 8)[:1], next, false, api.OK)
			}
		}
		for _, index := range []uint64{10, 11, 99, greatest} {
			merges(t, l, index, 4, put("b", index+1, 4), 9, false, api.OK)
		}
	})
	// The snapshot's own term ends a row of entries if it is another one, and else is the row's end.
	for _, term := range []uint64{0, 1, 2} {
		l, _ := logOf(t, after(2, term), put("a", 3, 1, 1))
		merges(t, l, 4, 7, nil, 2, false, api.OK)
		merges(t, l, 3, 7, nil, 2, false, api.OK)
		merges(t, l, 2, 7, nil, 2, false, api.OK)
	}
	l, _ = logOf(t, after(0, 0), put("a", 1, 1, 1))
	merges(t, l, 2, 7, nil, 0, false, api.OK)
	merges(t, l, 0, 7, nil, 0, false, api.OK)
	l, _ = logOf(t, after(0, 0), nil)
	merges(t, l, 0, 7, put("a", 1, 7), 0, false, api.OK)
	merges(t, l, 1, 7, nil, 0, false, api.OK)
	l, _ = logOf(t, after(greatest-1, 3), nil)
	merges(t, l, greatest-1, 7, put("a", greatest, 7), greatest-1, false, api.OK)
	merges(t, l, greatest, 7, nil, greatest-1, false, api.OK)
}

// P15.4: what is present is left alone, though more entries follow it; from the first one on that is not, the log becomes as it was told.
func TestMergeWrites(t *testing.T) {
	s, has := after(2, 1), put("a", 3, 1, 1, 2, 2)
	for what, x := range map[string]struct {
		index, term uint64
		x, want     []api.Entry
		last        uint64
	}{
		"nothing, at the snapshot":         {2, 1, nil, has, 2},
		"nothing, within":                  {4, 1, nil, has, 4},
		"nothing, at the end":              {6, 2, nil, has, 6},
		"all present":                      {2, 1, has, has, 6},
		"some present":                     {2, 1, has[:2], has, 4},
		"one present":                      {4, 1, has[2:3], has, 5},
		"present, with other data":         {2, 1, put("b", 3, 1, 1), has, 4},
		"none present, at the end":         {6, 2, put("b", 7, 2, 3), append(slices.Clone(has), put("b", 7, 2, 3)...), 8},
		"none present, within":             {4, 1, put("b", 5, 3, 3), append(slices.Clone(has[:2]), put("b", 5, 3, 3)...), 6},
		"none present, at the snapshot":    {2, 1, put("b", 3, 2), put("b", 3, 2), 3},
		"in part, then behind the end":     {4, 1, put("b", 5, 2, 2, 3), append(slices.Clone(has), put("b", 7, 3)...), 7},
		"in part, then other ones":         {2, 1, put("b", 3, 1, 2, 2, 2, 5), append(slices.Clone(has[:1]), put("b", 4, 2, 2, 2, 5)...), 7},
		"in part, then one other one":      {2, 1, put("b", 3, 1, 1, 2, 3), append(slices.Clone(has[:3]), put("b", 6, 3)...), 6},
		"one other one, and a shorter end": {2, 1, put("b", 3, 1, 2), append(slices.Clone(has[:1]), put("b", 4, 2)...), 4},
		"a lower term":                     {4, 1, put("b", 5, 1), append(slices.Clone(has[:2]), put("b", 5, 1)...), 5},
		"several configurations": {3, 1, []api.Entry{change(t, 4, 2, of(1)), change(t, 5, 2, of(2))},
			append(slices.Clone(has[:1]), change(t, 4, 2, of(1)), change(t, 5, 2, of(2))), 5},
	} {
		l, d := logOf(t, s, has)
		before := d.Steps()
		merges(t, l, x.index, x.term, x.x, x.last, true, api.OK)
		holds(t, what, l, s, x.want)
		if same := written(x.want) == written(has); same != (d.Steps() == before) {
			t.Errorf("%s: the disk has gone from step %d to %d", what, before, d.Steps())
		}
		rest(t, what+", once more", l, d, func() { merges(t, l, x.index, x.term, x.x, x.last, true, api.OK) })
		must(t, l.Sync())
		holds(t, what+", behind a crash", open(t, walOn(t, d.Crash(nil), 1), s), s, x.want)
	}
}

// P15.4: if Append fails, what was truncated remains truncated; what Append refuses ahead of that is not looked at among the entries that are present.
func TestMergeAppendRefused(t *testing.T) {
	s, has := after(2, 2), put("a", 3, 2, 3, 3)
	for _, x := range broken(5, 4) {
		l, d := logOf(t, s, has)
		rest(t, "a wrong entry behind the last one", l, d, func() {
			far := x
			far.Index = 6
			merges(t, l, 5, 3, []api.Entry{far}, 0, false, api.ErrConfigForm)
			merges(t, l, 4, 3, []api.Entry{has[2], far}, 0, false, api.ErrConfigForm)
			near := x
			near.Term = 3
			merges(t, l, 4, 3, []api.Entry{near}, 5, true, api.OK)
		})
		merges(t, l, 3, 2, append(put("b", 4, 4), x), 0, false, api.ErrConfigForm)
		holds(t, "a wrong entry behind another one", l, s, has[:1])
		must(t, l.Sync())
		holds(t, "a wrong entry, and a crash", open(t, walOn(t, d.Crash(nil), 1), s), s, has[:1])
	}
	for what, x := range map[string][]api.Entry{
		"terms that decrease":    put("b", 4, 5, 4),
		"a term lower than that": put("b", 4, 1),
		"no kind":                {{Index: 4, Term: 4, Kind: 3}},
		"data of none":           {{Index: 4, Term: 4, Data: []byte("x")}},
		"term 0":                 put("b", 4, 0),
	} {
		l, _ := logOf(t, s, has)
		merges(t, l, 3, 2, x, 0, false, api.ErrWalEntry)
		holds(t, what, l, s, has[:1])
		merges(t, l, 3, 2, has[1:], 5, true, api.OK)
		holds(t, what+", and then what is right", l, s, has)
	}
}

// P15.4: an error of the disk is returned, at whichever step it comes.
func TestMergeFails(t *testing.T) {
	s, has, more := after(2, 1), put("a", 3, 1, 1, 2), put("b", 4, 3, 3)
	// Two segments are removed, and each entry is appended behind a Sync.
	for at, left := range [][]api.Entry{has, has, has[:1], has[:1], has[:1], has[:1], append(has[:1:1], more...)} {
		l, d := logOf(t, s, has)
		d.Arm(at)
		if at == 6 {
			merges(t, l, 3, 1, more, 5, true, api.OK)
		} else {
			merges(t, l, 3, 1, more, 0, false, api.ErrDiskDead)
		}
		holds(t, fmt.Sprintf("a disk that fails at step %d", at), l, s, left)
		if at < 6 {
			merges(t, l, 3, 1, put("c", 4, 4), 0, false, api.ErrDiskDead)
			rest(t, "a disk that has failed", l, d, func() { merges(t, l, 2, 1, has[:1], 3, true, api.OK) })
		}
	}
	room := disk.New(130)
	l := open(t, walOn(t, room, 1000), after(0, 0))
	must(t, l.Append(put("a", 1, 1, 1)))
	big := []api.Entry{{Index: 2, Term: 2, Kind: api.EntryCommand, Data: make([]byte, 100)}}
	merges(t, l, 1, 1, big, 0, false, api.ErrDiskFull)
	holds(t, "a full disk", l, after(0, 0), put("a", 1, 1))
	merges(t, l, 1, 1, put("a", 2, 1), 0, false, api.ErrDiskFull)
}

// P15.4: all small logs, with all that can be merged: the answers, the log and the disk are those of the model.
func TestMergeAll(t *testing.T) {
	for _, s := range []api.Snapshot{after(0, 0), after(2, 1), after(2, 2)} {
		for _, has := range rising(3) {
			for _, terms := range rising(3) {
				for index := range s.Index + 6 {
					for term := range uint64(4) {
						mergeBoth(t, s, has, index, term, put("b", index+1, terms...))
					}
				}
			}
		}
	}
}

func mergeBoth(t *testing.T, s api.Snapshot, has []uint64, index, term uint64, x []api.Entry) {
	t.Helper()
	l, d := logOf(t, s, put("a", s.Index+1, has...))
	twin, other := walWith(t, 1, s.Index+1, put("a", s.Index+1, has...))
	m := &model{w: twin, begin: s}
	want, right, code := m.merge(index, term, x)
	merges(t, l, index, term, x, want, right, code)
	if look(d) != look(other) || l.Last() != m.Last() || l.LastTerm() != m.LastTerm() {
		t.Fatalf("Merge(%d, %d, %s) to terms %v after %v: the disk is %s, want %s", index, term, written(x), has, s, look(d), look(other))
	}
}
