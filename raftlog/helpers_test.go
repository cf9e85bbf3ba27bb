package raftlog_test

import (
	"fmt"
	"math"
	"slices"
	"strings"
	"testing"

	"dockyard/api"
	"dockyard/config"
	"dockyard/disk"
	"dockyard/raftlog"
	"dockyard/wal"
)

const greatest = uint64(math.MaxUint64)

// of answers a configuration of these voters.
func of(voters ...int) api.Config { return api.Config{Voters: voters} }

// after answers a snapshot, whose only voter is node 0.
func after(index, term uint64) api.Snapshot {
	return api.Snapshot{Index: index, Term: term, Config: of(0)}
}

// put answers commands with these terms, from an index on. Their data tell who wrote them.
func put(who string, from uint64, terms ...uint64) []api.Entry {
	var l []api.Entry
	for i, term := range terms {
		index := from + uint64(i)
		l = append(l, api.Entry{Index: index, Term: term, Kind: api.EntryCommand, Data: fmt.Appendf(nil, "%s%d.%d", who, index, term)})
	}
	return l
}

// change answers an entry with a configuration.
func change(t *testing.T, index, term uint64, c api.Config) api.Entry {
	t.Helper()
	b, e := config.Encode(c)
	if e != api.OK {
		t.Fatalf("Encode of %v answers %d", c, e)
	}
	return api.Entry{Index: index, Term: term, Kind: api.EntryConfig, Data: b}
}

// broken answers entries whose data is no configuration.
func broken(index, term uint64) []api.Entry {
	var l []api.Entry
	for _, data := range []string{"", "\x00\x00", "\x01\x00", "\x01\x00\x00\x00", "\x01\x08\x00", "\x02\x01\x00\x00", "\x01\x00\x01\x00", "voters"} {
		l = append(l, api.Entry{Index: index, Term: term, Kind: api.EntryConfig, Data: []byte(data)})
	}
	return l
}

// refused answers configurations that are not valid.
func refused() []api.Config {
	return []api.Config{{}, {Voters: []int{}}, {Learners: []int{0}}, of(1, 0), of(0, 0), of(8), of(-1), {Voters: []int{0}, Learners: []int{0}}, {Voters: []int{0}, Learners: []int{2, 1}}}
}

// A face is all that can be asked of a log.
type face interface {
	First() uint64
	Last() uint64
	LastTerm() uint64
	Term(index uint64) (uint64, bool)
	Entries(from uint64, most int) []api.Entry
	Match(index, term uint64) bool
	Config() (api.Config, uint64)
	ConfigAt(index uint64) api.Config
}

// written answers entries as a short text.
func written(l []api.Entry) string {
	var s strings.Builder
	for _, e := range l {
		fmt.Fprintf(&s, "%d/%d/%d:%q ", e.Index, e.Term, e.Kind, e.Data)
	}
	return s.String()
}

// around answers the indices at which a log is to be asked: all that it has, those beside them, and the edges.
func around(l face) []uint64 {
	some := []uint64{0, 1, 2, greatest - 2, greatest - 1, greatest}
	from := l.First() - 3
	for n := range l.Last() - l.First() + 7 {
		some = append(some, from+n)
	}
	slices.Sort(some)
	return slices.Compact(some)
}

// sight answers all that a log tells.
func sight(l face) string {
	var s strings.Builder
	c, at := l.Config()
	fmt.Fprintf(&s, "%d-%d, term %d, config %v from %d on\n", l.First(), l.Last(), l.LastTerm(), c, at)
	for _, most := range []int{math.MinInt, -1, 0, 1, 2, math.MaxInt} {
		fmt.Fprintf(&s, "first %d: %s\n", most, written(l.Entries(l.First(), most)))
	}
	for _, i := range around(l) {
		term, there := l.Term(i)
		fmt.Fprintf(&s, "%d: term %d %v, config %v, entries %s; %s", i, term, there, l.ConfigAt(i), written(l.Entries(i, 1)), written(l.Entries(i, 3)))
		for other := range uint64(5) {
			fmt.Fprintf(&s, " %v", l.Match(i, other))
		}
		s.WriteString("\n")
	}
	return s.String()
}

// sees fails the test unless a log tells just this.
func sees(t *testing.T, what string, l face, want string) {
	t.Helper()
	if got := sight(l); got != want {
		t.Fatalf("%s: the log is\n%s, want\n%s", what, got, want)
	}
}

// holds fails the test unless a log begins after a snapshot, and has just these entries.
func holds(t *testing.T, what string, l *raftlog.Log, s api.Snapshot, entries []api.Entry) {
	t.Helper()
	if l == nil {
		t.Fatalf("%s: there is no log", what)
	}
	sees(t, what, l, sight(&model{begin: s, only: entries}))
}

func answers(t *testing.T, what string, got, want api.Errno) {
	t.Helper()
	if got != want {
		t.Errorf("%s answers %d, want %d", what, got, want)
	}
}

// merges fails the test unless Merge answers just this.
func merges(t *testing.T, l *raftlog.Log, index, term uint64, x []api.Entry, want uint64, right bool, code api.Errno) {
	t.Helper()
	n, ok, e := l.Merge(index, term, x)
	if n != want || ok != right || e != code {
		t.Errorf("Merge(%d, %d, %s) answers %d, %v, %d, want %d, %v, %d", index, term, written(x), n, ok, e, want, right, code)
	}
}

// must fails the test unless the calls were done.
func must(t *testing.T, codes ...api.Errno) {
	t.Helper()
	for i, code := range codes {
		if code != api.OK {
			t.Fatalf("call %d answers %d, want OK", i, code)
		}
	}
}

func walOn(t *testing.T, d *disk.Disk, limit int) *wal.Wal {
	t.Helper()
	w, e := wal.Open(d, limit)
	if e != api.OK || w == nil {
		t.Fatalf("the wal's Open answers %d", e)
	}
	return w
}

// walWith answers a wal that begins at an index, with these entries, and its disk.
func walWith(t *testing.T, limit int, first uint64, l []api.Entry) (*wal.Wal, *disk.Disk) {
	t.Helper()
	d := disk.New(1 << 20)
	w := walOn(t, d, limit)
	if first != 1 {
		must(t, w.Reset(first-1))
	}
	must(t, w.Append(l), w.Sync())
	return w, d
}

func open(t *testing.T, w *wal.Wal, s api.Snapshot) *raftlog.Log {
	t.Helper()
	l, e := raftlog.Open(w, s)
	if e != api.OK || l == nil {
		t.Fatalf("Open answers %d", e)
	}
	return l
}

// logOf answers a log after a snapshot, with these entries, each in a segment of its own.
func logOf(t *testing.T, s api.Snapshot, l []api.Entry) (*raftlog.Log, *disk.Disk) {
	t.Helper()
	w, d := walWith(t, 1, s.Index+1, l)
	return open(t, w, s), d
}

// contents answers the names and the bytes of all files.
func contents(d *disk.Disk) string {
	var s strings.Builder
	for _, n := range d.Names() {
		b, _ := d.Read(n)
		fmt.Fprintf(&s, "%s=%q;", n, b)
	}
	return s.String()
}

// look answers all that can be seen of a disk.
func look(d *disk.Disk) string {
	return fmt.Sprintf("%s durable %s steps %d dead %v", contents(d), contents(d.Crash(nil)), d.Steps(), d.Dead())
}

// rest fails the test unless a call leaves a log and its disk as they are.
func rest(t *testing.T, what string, l *raftlog.Log, d *disk.Disk, call func()) {
	t.Helper()
	seen, before := sight(l), look(d)
	call()
	sees(t, what, l, seen)
	if look(d) != before {
		t.Fatalf("%s: the disk is %s, was %s", what, look(d), before)
	}
}
