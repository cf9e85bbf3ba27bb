package raftlog_test

import (
	"reflect"
	"slices"
	"testing"

	"dockyard/api"
	"dockyard/raftlog"
)

// roomy answers a configuration with room behind the ends of its lists, in which something stands.
func roomy() api.Config {
	return api.Config{Voters: []int{1, 2, 77, 78}[:2], Learners: []int{3, 79, 80}[:1]}
}

// untouched fails the test unless what roomy answers is still what it was.
func untouched(t *testing.T, what string, c api.Config) {
	t.Helper()
	if was := roomy(); !slices.Equal(c.Voters[:4], was.Voters[:4]) || !slices.Equal(c.Learners[:3], was.Learners[:3]) {
		t.Errorf("%s has changed the configuration that it was given to %v, %v", what, c.Voters[:4], c.Learners[:3])
	}
}

// spoil writes over all the memory of a configuration, up to its capacity.
func spoil(c api.Config) {
	for _, l := range [][]int{c.Voters, c.Learners} {
		l = l[:cap(l)]
		for n := range l {
			l[n] = 99
		}
	}
}

// spoilEntries writes over all the memory of entries, up to its capacity.
func spoilEntries(l []api.Entry) {
	l = l[:cap(l)]
	for n, e := range l {
		b := e.Data[:cap(e.Data)]
		for i := range b {
			b[i] = 0xee
		}
		l[n] = api.Entry{Index: 99, Term: 99, Kind: 99}
	}
}

// R5: the configuration of a snapshot is neither changed nor kept, by any call that takes one.
func TestSnapshotMemory(t *testing.T) {
	for what, call := range map[string]func(l *raftlog.Log, s api.Snapshot) api.Errno{
		"Open":    func(*raftlog.Log, api.Snapshot) api.Errno { return api.OK },
		"Compact": (*raftlog.Log).Compact,
		"Install": (*raftlog.Log).Install,
	} {
		s := with(2, 1, roomy())
		l, _ := logOf(t, s, put("a", 3, 1, 1))
		x := s
		if what != "Open" {
			x = with(3, 1, roomy())
			must(t, call(l, x))
		}
		seen := sight(l)
		untouched(t, what, x.Config)
		spoil(x.Config)
		sees(t, what+", and what it was given is overwritten", l, seen)
	}
}

// R5: entries that are written are neither changed nor kept.
func TestEntriesMemory(t *testing.T) {
	make := func() []api.Entry {
		x := append(put("a", 3, 1, 1), change(t, 5, 1, of(1, 2)), put("z", 6, 9)[0])[:3]
		for n := range x {
			x[n].Data = append(x[n].Data, "more"...)[:len(x[n].Data)]
		}
		return x
	}
	for what, call := range map[string]func(l *raftlog.Log, x []api.Entry){
		"Append": func(l *raftlog.Log, x []api.Entry) { must(t, l.Append(x)) },
		"Merge":  func(l *raftlog.Log, x []api.Entry) { merges(t, l, 2, 1, x, 5, true, api.OK) },
		"Merge below the snapshot": func(l *raftlog.Log, x []api.Entry) {
			merges(t, l, 0, 0, append(put("b", 1, 1, 1), x...), 5, true, api.OK)
		},
	} {
		l, _ := logOf(t, after(2, 1), put("c", 3, 1))
		if what == "Append" {
			l, _ = logOf(t, after(2, 1), nil)
		}
		x := make()
		call(l, x)
		if was := make(); !reflect.DeepEqual(x[:4], was[:4]) {
			t.Errorf("%s has changed its argument to %s", what, written(x[:4]))
		}
		for n, e := range x {
			if string(e.Data[:len(e.Data)+4]) != string(make()[n].Data)+"more" {
				t.Errorf("%s has written behind the data of its argument", what)
			}
		}
		seen := sight(l)
		spoilEntries(x)
		sees(t, what+", and what it was given is overwritten", l, seen)
	}
}

// R5: what is answered is new memory: it is shared with no other answer, and two lists of one answer share none.
func TestResultMemory(t *testing.T) {
	s := with(2, 1, roomy())
	l, _ := logOf(t, s, append(put("a", 3, 1, 1), change(t, 5, 1, roomy())))
	none, _ := logOf(t, s, nil)
	for _, log := range []*raftlog.Log{l, none} {
		seen := sight(log)
		for _, ask := range []func() api.Config{
			func() api.Config { c, _ := log.Config(); return c },
			func() api.Config { return log.ConfigAt(9) },
			func() api.Config { return log.ConfigAt(3) },
			func() api.Config { return log.ConfigAt(0) },
		} {
			first, second := ask(), ask()
			voters := first.Voters[:cap(first.Voters)]
			for n := range voters {
				voters[n] = 99
			}
			if was := roomy(); !slices.Equal(first.Learners, was.Learners) {
				t.Errorf("the two lists share memory: %v", first)
			}
			spoil(first)
			if was := roomy(); !reflect.DeepEqual(second, api.Config{Voters: was.Voters, Learners: was.Learners}) {
				t.Errorf("two answers share memory: %v", second)
			}
			sees(t, "what is answered is overwritten", log, seen)
		}
	}
	seen := sight(l)
	first, second := l.Entries(3, 9), l.Entries(4, 9)
	was := written(second)
	spoilEntries(first)
	if written(second) != was {
		t.Errorf("two answers share memory: %s", written(second))
	}
	sees(t, "what is answered is overwritten", l, seen)
}
