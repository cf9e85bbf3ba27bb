package raftlog_test

import (
	"fmt"
	"math/rand/v2"
	"slices"
	"testing"

	"dockyard/api"
	"dockyard/disk"
	"dockyard/raftlog"
)

// randomEntries answers entries that mostly follow an index; some of them have a configuration, or something that is none.
func randomEntries(t *testing.T, r *rand.Rand, index, term uint64) []api.Entry {
	var l []api.Entry
	for range r.IntN(5) {
		index++
		if r.IntN(60) == 0 {
			index++
		}
		term += r.Uint64N(3) / 2
		e := put(fmt.Sprint(r.IntN(3)), index, term)[0]
		switch k := r.IntN(30); {
		case k < 8:
			e = change(t, index, term, of(r.IntN(8)))
		case k == 8:
			e = broken(index, term)[r.IntN(8)]
		}
		l = append(l, e)
	}
	return l
}

// randomSnapshot answers one near a log, now and then one that is refused.
func randomSnapshot(r *rand.Rand, m *model) api.Snapshot {
	s := after(m.begin.Index+r.Uint64N(m.Last()-m.begin.Index+3)-r.Uint64N(2), r.Uint64N(6))
	s.Config = of(r.IntN(8))
	if term, there := m.Term(s.Index); there && r.IntN(4) > 0 {
		s.Term = term
	}
	if r.IntN(12) == 0 {
		s.Config = refused()[r.IntN(len(refused()))]
	}
	return s
}

// randomCall does one call on a log and on its model, and fails the test unless they answer the same.
func randomCall(t *testing.T, r *rand.Rand, l *raftlog.Log, m *model) {
	t.Helper()
	switch k := r.IntN(20); {
	case k < 4:
		x := randomEntries(t, r, m.Last(), m.LastTerm())
		answers(t, "Append of "+written(x), l.Append(x), m.append(x))
	case k < 14:
		index := m.begin.Index + r.Uint64N(m.Last()-m.begin.Index+2)
		if r.IntN(4) == 0 {
			index -= min(index, r.Uint64N(4))
		}
		term, there := m.Term(index)
		if !there || r.IntN(5) == 0 {
			term = r.Uint64N(6)
		}
		x := randomEntries(t, r, index, term)
		if r.IntN(3) == 0 {
			x = append(m.Entries(index+1, r.IntN(4)), x[min(len(x), 1):]...)
		}
		want, right, code := m.merge(index, term, x)
		merges(t, l, index, term, x, want, right, code)
	case k < 15:
		answers(t, "Sync", l.Sync(), m.w.Sync())
	case k < 19:
		s := randomSnapshot(r, m)
		answers(t, fmt.Sprintf("Compact of %v", s), l.Compact(s), m.compact(s))
	default:
		s := randomSnapshot(r, m)
		answers(t, fmt.Sprintf("Install of %v", s), l.Install(s), m.install(s))
	}
}

// P15.1 to P15.6: random calls, on disks that become full or fail: the answers, the log and the disk are those of the model, and so is what is found behind a crash.
func TestRandomCalls(t *testing.T) {
	r := rand.New(rand.NewPCG(15, 1))
	for range 300 {
		room, limit := []int{1 << 20, 300 + r.IntN(500)}[r.IntN(2)], []int{1, 60, 150, 1000}[r.IntN(4)]
		d, other := disk.New(room), disk.New(room)
		l, twin := open(t, walOn(t, d, limit), after(0, 0)), walOn(t, other, limit)
		m := &model{w: twin, begin: after(0, 0)}
		if r.IntN(2) == 0 {
			at := r.IntN(80)
			d.Arm(at)
			other.Arm(at)
		}
		for range 30 {
			randomCall(t, r, l, m)
			sees(t, "a call", l, sight(m))
			if look(d) != look(other) {
				t.Fatalf("the disk is %s, want %s", look(d), look(other))
			}
		}
		keep := []int{r.IntN(300), r.IntN(300), r.IntN(300)}
		found, same := walOn(t, d.Crash(keep), limit), walOn(t, other.Crash(keep), limit)
		l, e := raftlog.Open(found, m.begin)
		again, want := modelOf(same, m.begin)
		answers(t, "Open behind a crash", e, want)
		if l != nil && again != nil {
			sees(t, "Open behind a crash", l, sight(again))
		}
	}
}

// A shipment is entries of a leader on their way, with the index and the term ahead of them.
type shipment struct {
	leader       int
	term         uint64
	index, ahead uint64
	entries      []api.Entry
}

// A yard is logs that get their entries from leaders: each term has one, who writes as long as it knows of no later term.
type yard struct {
	r       *rand.Rand
	logs    []*raftlog.Log
	disks   []*disk.Disk
	terms   []uint64 // the latest one that a node knows of
	leads   []uint64 // the latest one that a node was elected in
	sent    []shipment
	written int
	done    map[string]int
}

func newYard(t *testing.T, r *rand.Rand, many int) *yard {
	y := &yard{r: r, terms: make([]uint64, many), leads: make([]uint64, many), done: map[string]int{}}
	for range many {
		d := disk.New(1 << 20)
		y.disks = append(y.disks, d)
		y.logs = append(y.logs, open(t, walOn(t, d, 150), after(0, 0)))
	}
	return y
}

func (y *yard) leading(node int) bool {
	return y.leads[node] > 0 && y.leads[node] == y.terms[node]
}

func (y *yard) elect(node int) {
	y.terms[node] = slices.Max(y.terms) + 1
	y.leads[node] = y.terms[node]
}

// write lets a leader add an entry like no other one.
func (y *yard) write(t *testing.T, node int) {
	l := y.logs[node]
	y.written++
	must(t, l.Append(put(fmt.Sprint("entry ", y.written, " of "), l.Last()+1, y.terms[node])))
}

// some answers a piece of a log, with the index and the term ahead of it.
func (y *yard) some(node int) shipment {
	l := y.logs[node]
	index := l.First() - 1 + y.r.Uint64N(l.Last()-l.First()+2)
	ahead, _ := l.Term(index)
	return shipment{node, y.terms[node], index, ahead, l.Entries(index+1, y.r.IntN(5))}
}

// arrive merges what is on its way, and does it once more, which changes nothing.
func (y *yard) arrive(t *testing.T, s shipment, node int) {
	t.Helper()
	if node == s.leader || s.term < y.terms[node] {
		return
	}
	y.terms[node] = s.term
	l, before := y.logs[node], y.logs[node].Last()
	last, right, e := l.Merge(s.index, s.ahead, s.entries)
	must(t, e)
	if l.Last() < before {
		y.done["truncated"]++
	}
	y.done[fmt.Sprint(right)]++
	rest(t, "the same again", l, y.disks[node], func() { merges(t, l, s.index, s.ahead, s.entries, last, right, api.OK) })
}

// present merges a piece of a log into the log itself.
func (y *yard) present(t *testing.T, node int) {
	t.Helper()
	s := y.some(node)
	rest(t, "what is present", y.logs[node], y.disks[node], func() {
		merges(t, y.logs[node], s.index, s.ahead, s.entries, s.index+uint64(len(s.entries)), true, api.OK)
	})
}

// agreed answers the greatest index at which all logs match: the one after which one of them begins, at least.
func (y *yard) agreed() uint64 {
	least, index := uint64(0), y.logs[0].Last()
	for _, l := range y.logs {
		least = max(least, l.First()-1)
	}
	for ; index > least; index-- {
		term, _ := y.logs[0].Term(index)
		if !slices.ContainsFunc(y.logs, func(l *raftlog.Log) bool { return !l.Match(index, term) }) {
			break
		}
	}
	return index
}

// shorten lets a log begin later: after what all logs have, so that no leader to come lacks it. What is on its way may lack it, and is lost.
func (y *yard) shorten(t *testing.T, node int) {
	t.Helper()
	l, agreed := y.logs[node], y.agreed()
	if agreed < l.First() {
		return
	}
	term, _ := y.logs[0].Term(agreed)
	y.sent = nil
	if y.leading(node) || y.r.IntN(3) > 0 {
		must(t, l.Compact(after(agreed, term)))
		y.done["compacted"]++
		return
	}
	must(t, l.Install(after(agreed, term)))
	y.done["installed"]++
}

// agree fails the test unless two logs have the same entries up to each index at which they match.
func (y *yard) agree(t *testing.T, a, b *raftlog.Log) {
	t.Helper()
	from := max(a.First(), b.First())
	for index := min(a.Last(), b.Last()); index >= from; index-- {
		if term, _ := a.Term(index); !b.Match(index, term) {
			continue
		}
		most := int(index - from + 1)
		if x, z := written(a.Entries(from, most)), written(b.Entries(from, most)); x != z {
			t.Fatalf("two logs match at %d, and have\n%s,\n%s", index, x, z)
		}
		y.done["matched"]++
		// What holds at this index holds at those before it.
		return
	}
}

// P15.7: logs that match at an index have the same entries up to it; merging what is present changes nothing.
func TestLogsMatch(t *testing.T) {
	r := rand.New(rand.NewPCG(15, 7))
	done := map[string]int{}
	for range 150 {
		y := newYard(t, r, 2+r.IntN(4))
		y.done = done
		for range 200 {
			node := r.IntN(len(y.logs))
			switch k := r.IntN(40); {
			case k < 2:
				y.shorten(t, node)
			case k < 4:
				y.elect(node)
			case k < 10 && y.leading(node):
				y.write(t, node)
			case k < 20 && y.leading(node):
				y.sent = append(y.sent, y.some(node))
			case k < 38 && len(y.sent) > 0:
				// It stays on its way: it may arrive late, twice, and elsewhere.
				y.arrive(t, y.sent[r.IntN(len(y.sent))], node)
			default:
				y.present(t, node)
			}
			for _, l := range y.logs {
				y.agree(t, y.logs[node], l)
			}
		}
	}
	for _, what := range []string{"true", "false", "truncated", "compacted", "installed", "matched"} {
		if done[what] < 20 {
			t.Errorf("it was done so often: %v", done)
		}
	}
}
