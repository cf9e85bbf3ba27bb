package raftlog_test

import (
	"slices"
	"testing"

	"dockyard/api"
)

// with answers a snapshot with a configuration.
func with(index, term uint64, c api.Config) api.Snapshot {
	return api.Snapshot{Index: index, Term: term, Config: c}
}

// P15.6: Compact lets the log begin after any of its own entries, or after the snapshot again; the wal removes the segments before it.
func TestCompact(t *testing.T) {
	s, has := after(2, 1), put("a", 3, 1, 2, 2, 3)
	terms := []uint64{0, 0, 1, 1, 2, 2, 3}
	for index := uint64(2); index <= 6; index++ {
		for _, limit := range []int{1, 70, 1000} {
			w, d := walWith(t, limit, 3, has)
			twin, other := walWith(t, limit, 3, has)
			l := open(t, w, s)
			x := api.Snapshot{Index: index, Term: terms[index], Config: api.Config{Voters: []int{4}, Learners: []int{1, 2}}, Data: []byte("data")}
			answers(t, "Compact", l.Compact(x), twin.Compact(index))
			holds(t, "Compact", l, x, has[index-2:])
			if look(d) != look(other) {
				t.Errorf("Compact at %d: the disk is %s, want %s", index, look(d), look(other))
			}
			more := append(put("b", 7, 3), change(t, 8, 4, of(1)))
			answers(t, "Append", l.Append(more), api.OK)
			holds(t, "Append behind Compact", l, x, append(slices.Clone(has[index-2:]), more...))
			must(t, l.Sync())
			holds(t, "Compact, and a crash", open(t, walOn(t, d.Crash(nil), limit), x), x, append(slices.Clone(has[index-2:]), more...))
			answers(t, "Compact once more", l.Compact(with(8, 4, of(5))), api.OK)
			holds(t, "Compact once more", l, with(8, 4, of(5)), nil)
		}
	}
}

// P15.6: what Compact refuses, it leaves alone: a configuration ahead of all else, and what is no index and term of the log.
func TestCompactRefused(t *testing.T) {
	s, has := after(2, 1), put("a", 3, 1, 2, 2)
	w, d := walWith(t, 1000, 1, append(put("a", 1, 1, 1), has...))
	l := open(t, w, s)
	for _, c := range refused() {
		for _, index := range []uint64{0, 1, 2, 3, 5, 6, greatest} {
			rest(t, "a configuration", l, d, func() { answers(t, "Compact", l.Compact(with(index, 1, c)), api.ErrConfigForm) })
		}
	}
	rest(t, "an index or a term", l, d, func() {
		for _, index := range []uint64{0, 1, 6, 7, greatest - 1, greatest} {
			for term := range uint64(4) {
				answers(t, "Compact at an index that is not there", l.Compact(after(index, term)), api.ErrLogRange)
			}
		}
		for index, term := range map[uint64]uint64{2: 1, 3: 1, 4: 2, 5: 2} {
			for _, other := range []uint64{0, term - 1, term + 1, greatest} {
				answers(t, "Compact with another term", l.Compact(after(index, other)), api.ErrLogRange)
			}
		}
	})
	l, d = logOf(t, after(greatest-2, 1), put("a", greatest-1, 1, 2))
	rest(t, "the greatest index", l, d, func() { answers(t, "Compact", l.Compact(after(greatest, 2)), api.ErrLogRange) })
	answers(t, "Compact ahead of the greatest index", l.Compact(after(greatest-1, 1)), api.OK)
	holds(t, "Compact ahead of the greatest index", l, after(greatest-1, 1), put("a", greatest, 2))
	rest(t, "the greatest index", l, d, func() { answers(t, "Compact", l.Compact(after(greatest, 2)), api.ErrLogRange) })
}

// P15.6: x becomes the snapshot even if the wal can't remove what is before it.
func TestCompactFails(t *testing.T) {
	s, has := after(2, 1), put("a", 3, 1, 2, 2)
	for at := range 3 {
		l, d := logOf(t, s, has)
		d.Arm(at)
		want := api.ErrDiskDead
		if at == 2 {
			want = api.OK
		}
		answers(t, "Compact", l.Compact(with(4, 2, of(6))), want)
		holds(t, "Compact on a disk that fails", l, with(4, 2, of(6)), has[2:])
	}
	l, d := logOf(t, s, has)
	d.Arm(0)
	answers(t, "Sync", l.Sync(), api.ErrDiskDead)
	answers(t, "Compact on a disk that has failed", l.Compact(with(3, 1, of(6))), api.ErrDiskDead)
	holds(t, "Compact on a disk that has failed", l, with(3, 1, of(6)), has[1:])
	answers(t, "Compact at the snapshot, on a disk that has failed", l.Compact(with(3, 1, of(5))), api.ErrDiskDead)
	answers(t, "what is refused", l.Compact(with(2, 1, of(5))), api.ErrLogRange)
	holds(t, "Compact at the snapshot, on a disk that has failed", l, with(3, 1, of(5)), has[1:])
}

// P15.6: Install lets the log begin after any later snapshot, without an entry, whatever it had there.
func TestInstall(t *testing.T) {
	s, has := after(2, 1), append(put("a", 3, 1, 2), change(t, 5, 2, of(3)))
	for _, index := range []uint64{3, 4, 5, 6, 7, 99, greatest - 1} {
		for _, term := range []uint64{0, 1, 2, 9} {
			l, d := logOf(t, s, has)
			twin, other := walWith(t, 1, 3, has)
			x := api.Snapshot{Index: index, Term: term, Config: api.Config{Voters: []int{4}, Learners: []int{1, 2}}, Data: []byte("data")}
			answers(t, "Install", l.Install(x), twin.Reset(index))
			holds(t, "Install", l, x, nil)
			if look(d) != look(other) {
				t.Errorf("Install at %d: the disk is %s, want %s", index, look(d), look(other))
			}
			answers(t, "Append", l.Append(put("b", index+1, 9)), api.OK)
			holds(t, "Append behind Install", l, x, put("b", index+1, 9))
		}
	}
	l, _ := logOf(t, after(0, 0), nil)
	answers(t, "Install in an empty log", l.Install(after(1, 1)), api.OK)
	holds(t, "Install in an empty log", l, after(1, 1), nil)
}

// P15.6: Install refuses a configuration ahead of all else, then an index that is not behind the snapshot; the greatest one is refused by the wal.
func TestInstallRefused(t *testing.T) {
	s, has := after(2, 1), put("a", 3, 1, 2)
	l, d := logOf(t, s, has)
	for _, c := range refused() {
		for _, index := range []uint64{0, 2, 3, 9, greatest} {
			rest(t, "a configuration", l, d, func() { answers(t, "Install", l.Install(with(index, 1, c)), api.ErrConfigForm) })
		}
	}
	rest(t, "an index", l, d, func() {
		for index := range uint64(3) {
			for term := range uint64(4) {
				answers(t, "Install at an index that is not behind", l.Install(after(index, term)), api.ErrLogRange)
			}
		}
		answers(t, "Install at the greatest index", l.Install(after(greatest, 1)), api.ErrWalRange)
	})
	l, d = logOf(t, after(0, 0), nil)
	rest(t, "no snapshot", l, d, func() { answers(t, "Install", l.Install(after(0, 1)), api.ErrLogRange) })
}

// P15.6: if the wal can't be reset, the snapshot is as it was.
func TestInstallFails(t *testing.T) {
	s, has := after(2, 1), append(put("a", 3, 1), change(t, 4, 2, of(3)))
	// Two segments are removed, and one is created and synced.
	for at := range 4 {
		l, d := logOf(t, s, has)
		d.Arm(at)
		answers(t, "Install", l.Install(with(9, 2, of(6))), api.ErrDiskDead)
		holds(t, "Install on a disk that fails", l, s, has)
		answers(t, "Install on a disk that has failed", l.Install(with(9, 2, of(6))), api.ErrDiskDead)
		answers(t, "Install at the greatest index, on a disk that has failed", l.Install(after(greatest, 2)), api.ErrDiskDead)
		answers(t, "what is refused", l.Install(after(2, 1)), api.ErrLogRange)
		holds(t, "Install on a disk that has failed", l, s, has)
	}
	l, d := logOf(t, s, has)
	d.Arm(4)
	answers(t, "Install", l.Install(with(9, 2, of(6))), api.OK)
	holds(t, "Install", l, with(9, 2, of(6)), nil)
}
