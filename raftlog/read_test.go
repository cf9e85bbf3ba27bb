package raftlog_test

import (
	"fmt"
	"math"
	"testing"

	"dockyard/api"
)

// P15.2: the answers of a log after a snapshot, written out; what the wal has up to the snapshot is none of the log.
func TestRead(t *testing.T) {
	w, _ := walWith(t, 1000, 1, put("a", 1, 1, 1, 2, 4, 4))
	l := open(t, w, after(3, 2))
	if w.First() != 1 || l.First() != 4 || l.Last() != 5 || l.LastTerm() != 4 {
		t.Errorf("First, Last and LastTerm are %d, %d, %d; the wal's First is %d", l.First(), l.Last(), l.LastTerm(), w.First())
	}
	for index, want := range map[uint64]string{0: "0 false", 1: "0 false", 2: "0 false", 3: "2 true", 4: "4 true", 5: "4 true", 6: "0 false", greatest: "0 false", greatest - 1: "0 false"} {
		term, there := l.Term(index)
		if got := fmt.Sprint(term, there); got != want {
			t.Errorf("Term(%d) answers %s, want %s", index, got, want)
		}
		for other := range uint64(6) {
			if got := l.Match(index, other); got != (there && other == term) {
				t.Errorf("Match(%d, %d) answers %v", index, other, got)
			}
		}
	}
	for _, x := range []struct {
		from  uint64
		most  int
		wants []api.Entry
	}{
		{4, 1, put("a", 4, 4)}, {4, 2, put("a", 4, 4, 4)}, {4, 3, put("a", 4, 4, 4)}, {4, math.MaxInt, put("a", 4, 4, 4)},
		{5, 1, put("a", 5, 4)}, {5, 2, put("a", 5, 4)}, {5, math.MaxInt, put("a", 5, 4)},
		{4, 0, nil}, {4, -1, nil}, {4, math.MinInt, nil}, {5, 0, nil},
		{3, 2, nil}, {2, 9, nil}, {1, 9, nil}, {0, 9, nil}, {0, math.MaxInt, nil}, {6, 1, nil}, {7, 9, nil}, {greatest, 9, nil},
	} {
		if got := l.Entries(x.from, x.most); written(got) != written(x.wants) {
			t.Errorf("Entries(%d, %d) answers %s, want %s", x.from, x.most, written(got), written(x.wants))
		}
	}
}

// P15.2: a log without entries has the snapshot's own index and term, and nothing beside it.
func TestReadNone(t *testing.T) {
	for _, s := range []api.Snapshot{after(0, 0), after(0, 5), after(1, 1), after(7, 3), after(greatest-1, 9)} {
		l, _ := logOf(t, s, nil)
		if l.First() != s.Index+1 || l.Last() != s.Index || l.LastTerm() != s.Term {
			t.Errorf("First, Last and LastTerm are %d, %d, %d, after %v", l.First(), l.Last(), l.LastTerm(), s)
		}
		for _, index := range []uint64{0, s.Index - 1, s.Index, s.Index + 1, greatest} {
			term, there := l.Term(index)
			if there != (index == s.Index) || there && term != s.Term || !there && term != 0 {
				t.Errorf("Term(%d) answers %d, %v, after %v", index, term, there, s)
			}
			if got := l.Entries(index, 9); len(got) != 0 {
				t.Errorf("Entries(%d) answers %s, after %v", index, written(got), s)
			}
			if index != s.Index && l.Match(index, 0) {
				t.Errorf("Match(%d, 0) answers true, after %v", index, s)
			}
		}
	}
}

// P15.2: the greatest index is one like the others.
func TestReadGreatest(t *testing.T) {
	s := after(greatest-3, 1)
	l, _ := logOf(t, s, put("a", greatest-2, 1, 1, 2))
	holds(t, "a log up to the greatest index", l, s, put("a", greatest-2, 1, 1, 2))
	if term, there := l.Term(greatest); l.Last() != greatest || term != 2 || !there || len(l.Entries(greatest, 9)) != 1 || len(l.Entries(greatest-2, 9)) != 3 {
		t.Errorf("Last is %d, its term %d, %v", l.Last(), term, there)
	}
}

// P15.5: the configuration is that of the last entry that has one, up to an index, or the snapshot's.
func TestConfig(t *testing.T) {
	s := api.Snapshot{Index: 2, Term: 1, Config: api.Config{Voters: []int{0, 1}, Learners: []int{5}}}
	three, seven := of(0, 1, 2), api.Config{Voters: []int{7}, Learners: []int{0, 1}}
	is := func(what string, l interface {
		Config() (api.Config, uint64)
	}, want api.Config, at uint64) {
		t.Helper()
		if c, n := l.Config(); fmt.Sprint(c) != fmt.Sprint(want) || n != at {
			t.Errorf("%s: Config answers %v, %d, want %v, %d", what, c, n, want, at)
		}
	}
	l, _ := logOf(t, s, nil)
	is("an empty log", l, s.Config, 2)
	must(t, l.Append(put("a", 3, 1)), l.Append([]api.Entry{{Index: 4, Term: 1}}))
	is("no configuration", l, s.Config, 2)
	must(t, l.Append([]api.Entry{change(t, 5, 1, three)}))
	is("one configuration", l, three, 5)
	must(t, l.Append(put("a", 6, 1)))
	is("one configuration, and a command", l, three, 5)
	must(t, l.Append([]api.Entry{change(t, 7, 1, seven), {Index: 8, Term: 1, Kind: api.EntryCommand, Data: change(t, 8, 1, of(4)).Data}}))
	is("two configurations, and a command that looks like one", l, seven, 7)
	for index, want := range map[uint64]api.Config{0: s.Config, 1: s.Config, 2: s.Config, 3: s.Config, 4: s.Config, 5: three, 6: three, 7: seven, 8: seven, 9: seven, greatest: seven} {
		if c := l.ConfigAt(index); fmt.Sprint(c) != fmt.Sprint(want) {
			t.Errorf("ConfigAt(%d) answers %v, want %v", index, c, want)
		}
	}
	merges(t, l, 6, 1, put("b", 7, 2), 7, true, api.OK)
	is("the last one was removed", l, three, 5)
	merges(t, l, 3, 1, append(put("b", 4, 2), change(t, 5, 2, of(6))), 5, true, api.OK)
	is("another one is in its place", l, of(6), 5)
	must(t, l.Compact(api.Snapshot{Index: 4, Term: 2, Config: of(3)}))
	is("the snapshot ends before it", l, of(6), 5)
	must(t, l.Compact(api.Snapshot{Index: 5, Term: 2, Config: of(4)}))
	is("the snapshot holds it", l, of(4), 5)
	must(t, l.Append([]api.Entry{change(t, 6, 2, three)}), l.Install(api.Snapshot{Index: 6, Term: 2, Config: seven}))
	is("a snapshot of another log", l, seven, 6)
	if c := l.ConfigAt(5); fmt.Sprint(c) != fmt.Sprint(seven) {
		t.Errorf("ConfigAt before the snapshot answers %v", c)
	}
}

// P15.5: what Open finds counts as well, but what the wal has up to the snapshot does not.
func TestConfigFound(t *testing.T) {
	w, _ := walWith(t, 1000, 1, []api.Entry{change(t, 1, 1, of(1)), change(t, 2, 1, of(2)), change(t, 3, 1, of(3)), change(t, 4, 1, of(4))})
	l := open(t, w, api.Snapshot{Index: 2, Term: 1, Config: of(7)})
	want := []api.Config{of(7), of(7), of(7), of(3), of(4), of(4)}
	for index, c := range want {
		if got := l.ConfigAt(uint64(index)); fmt.Sprint(got) != fmt.Sprint(c) {
			t.Errorf("ConfigAt(%d) answers %v, want %v", index, got, c)
		}
	}
	if c, at := l.Config(); fmt.Sprint(c) != fmt.Sprint(of(4)) || at != 4 {
		t.Errorf("Config answers %v, %d", c, at)
	}
}

// P15.5: what was there when Sync returned is there behind a crash; what came later need not be.
func TestSync(t *testing.T) {
	w, d := walWith(t, 1000, 1, nil)
	l := open(t, w, after(0, 0))
	must(t, l.Append(put("a", 1, 1, 1)))
	found := func(what string, want []api.Entry) {
		t.Helper()
		holds(t, what, open(t, walOn(t, d.Crash(nil), 1000), after(0, 0)), after(0, 0), want)
	}
	found("ahead of Sync", nil)
	must(t, l.Sync())
	found("behind Sync", put("a", 1, 1, 1))
	merges(t, l, 1, 1, append(put("b", 2, 2), change(t, 3, 2, of(5))), 3, true, api.OK)
	found("ahead of the next Sync", put("a", 1, 1))
	must(t, l.Sync())
	found("behind the next Sync", append(append(put("a", 1, 1), put("b", 2, 2)...), change(t, 3, 2, of(5))))
	d.Arm(0)
	answers(t, "Sync of a disk that fails", l.Sync(), api.ErrDiskDead)
	answers(t, "Sync of a disk that has failed", l.Sync(), api.ErrDiskDead)
}
