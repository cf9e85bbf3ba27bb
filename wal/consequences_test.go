package wal_test

import (
	"math/rand/v2"
	"slices"
	"strings"
	"testing"

	"dockyard/api"
	"dockyard/disk"
	"dockyard/wal"
)

// randomCall answers a call that is refused now and then.
func randomCall(r *rand.Rand, m *model) call {
	next := m.last() + 1
	near := m.numbers[0] + r.Uint64N(next-m.numbers[0]+3) - 1
	switch k := r.IntN(20); {
	case k < 10:
		return call{kind: 0, entries: randomEntries(r, next, m)}
	case k < 13:
		return call{kind: 1}
	case k < 16:
		return call{kind: 2, number: near}
	case k < 19:
		return call{kind: 3, number: near}
	}
	return call{kind: 4, number: r.Uint64N(2 * next)}
}

func randomEntries(r *rand.Rand, next uint64, m *model) []api.Entry {
	term := uint64(1)
	if len(m.entries) > 0 {
		term = m.entries[len(m.entries)-1].Term
	}
	var l []api.Entry
	for range r.IntN(5) {
		if r.IntN(40) == 0 {
			next++
		}
		term += r.Uint64N(2)
		if r.IntN(40) == 0 {
			term--
		}
		e := api.Entry{Index: next, Term: term, Kind: r.IntN(3)}
		if e.Kind != api.EntryNone {
			e.Data = []byte(strings.Repeat(string(rune('a'+r.IntN(26))), r.IntN(6)))
		}
		l = append(l, e)
		next++
	}
	return l
}

func randomKeep(r *rand.Rand, d *disk.Disk) []int {
	keep := make([]int, len(d.Names()))
	for i := range keep {
		keep[i] = r.IntN(300) - 20
	}
	return keep
}

// P5.3: random calls on disks that become full, or fail: the answers, the log, the files, what of them is durable and the steps are those of the model.
func TestRandomCalls(t *testing.T) {
	r := rand.New(rand.NewPCG(5, 3))
	for range 600 {
		room, limit := []int{1 << 20, 300 + r.IntN(500)}[r.IntN(2)], []int{-1, 1, 31, 32, 62, 100, 1000}[r.IntN(7)]
		d, twin := disk.New(room), disk.New(room)
		w, m := open(t, d, limit), modelOf(twin, limit)
		if r.IntN(2) == 0 {
			at := r.IntN(60)
			d.Arm(at)
			twin.Arm(at)
		}
		for range 30 {
			c := randomCall(r, m)
			want := c.onModel(t, m)
			answers(t, c.String(), c.do(w), want)
			sees(t, c.String(), w, m.sight())
			if look(d) != look(twin) {
				t.Fatalf("%v: the disk is %s, want %s", c, look(d), look(twin))
			}
		}
	}
}

// A vow is what a test knows of a log whose disk may crash: the entries that were safe, and those that came behind them.
type vow struct {
	safe, later []api.Entry
}

// note takes down a call that was done, or (whole is false) that the disk has cut off.
func (v *vow) note(c call, m *model, whole bool) {
	switch c.kind {
	case 0:
		v.later = append(v.later, c.entries...)
	case 1:
		if whole {
			v.safe, v.later = slices.Concat(v.safe, v.later), nil
		}
	case 2:
		before := func(l []api.Entry) []api.Entry {
			return slices.DeleteFunc(slices.Clone(l), func(e api.Entry) bool { return e.Index >= c.number })
		}
		v.safe, v.later = before(v.safe), before(v.later)
	case 3:
		first := m.numbers[0]
		after := func(l []api.Entry) []api.Entry {
			return slices.DeleteFunc(slices.Clone(l), func(e api.Entry) bool { return e.Index < first })
		}
		v.safe, v.later = after(v.safe), after(v.later)
	case 4:
		v.safe, v.later = nil, nil
	}
}

// P5.4: behind any crash the log has what was safe, and a prefix of what was appended since; and what was found is safe.
func TestCrash(t *testing.T) {
	r := rand.New(rand.NewPCG(5, 4))
	for range 300 {
		limit := []int{1, 31, 62, 100, 1000}[r.IntN(5)]
		d, twin := disk.New(1<<20), disk.New(1<<20)
		w, m := open(t, d, limit), modelOf(twin, limit)
		v := &vow{}
		for range 40 {
			c := randomCall(r, m)
			if c.do(w) == api.OK {
				must(t, c.onModel(t, m))
				v.note(c, m, true)
			}
			found := d.Crash(randomKeep(r, d))
			x := open(t, found, limit)
			keeps(t, v, x)
			sees(t, "opened again", open(t, found, limit), sight(t, x))
			sees(t, "and behind a further crash", open(t, found.Crash(nil), limit), sight(t, x))
		}
	}
}

// keeps fails the test unless a log has what is safe, and of the rest a prefix.
func keeps(t *testing.T, v *vow, w *wal.Wal) {
	t.Helper()
	got := collect(w, 0)
	for n := range len(v.later) + 1 {
		if got == writtenAll(slices.Concat(v.safe, v.later[:n])) {
			return
		}
	}
	t.Fatalf("the log is %s, of which is safe %s, and the rest %s", got, writtenAll(v.safe), writtenAll(v.later))
}

// P5.4: the same for a disk that fails within a call; what a Truncate, Compact or Reset would have removed may then be there, in part, or not.
func TestCrashWithin(t *testing.T) {
	r := rand.New(rand.NewPCG(5, 5))
	for range 1500 {
		limit := []int{1, 31, 62, 100}[r.IntN(4)]
		d, twin := disk.New(1<<20), disk.New(1<<20)
		w, m := open(t, d, limit), modelOf(twin, limit)
		d.Arm(r.IntN(80))
		v := &vow{}
		for !d.Dead() {
			c := randomCall(r, m)
			switch c.do(w) {
			case api.OK:
				must(t, c.onModel(t, m))
				v.note(c, m, true)
			case api.ErrDiskDead:
				x := open(t, d.Crash(randomKeep(r, d)), limit)
				if c.kind < 2 {
					v.note(c, m, false)
					keeps(t, v, x)
				} else {
					between(t, c, slices.Concat(v.safe, v.later), len(v.safe), x)
				}
			}
		}
	}
}

// between fails the test unless a log has entries that were there, without a gap, and lacks no safe one but those that the call removes.
func between(t *testing.T, c call, all []api.Entry, safe int, w *wal.Wal) {
	t.Helper()
	got := collect(w, 0)
	for from := range len(all) + 1 {
		for to := from; to <= len(all); to++ {
			front := from == 0 || c.kind == 4 || c.kind == 3 && all[from-1].Index <= c.number
			back := to >= safe || c.kind == 4 || c.kind == 2 && all[to].Index >= c.number
			if front && back && got == writtenAll(all[from:to]) {
				return
			}
		}
	}
	t.Fatalf("cut off in %v: the log is %s, was %s, of which %d were safe", c, got, writtenAll(all), safe)
}

// P5.4: whatever the files are, a log is had of them, and the same one again.
func TestAnyBytes(t *testing.T) {
	r := rand.New(rand.NewPCG(5, 6))
	for range 3000 {
		d := disk.New(1 << 20)
		for range r.IntN(6) {
			number := []uint64{r.Uint64N(8), r.Uint64N(8), r.Uint64N(8), r.Uint64()}[r.IntN(4)]
			must(t, d.Append(name(number), randomBytes(t, r, number)))
		}
		limit := r.IntN(100)
		w := open(t, d, limit)
		seen, left := sight(t, w), contents(d)
		again := open(t, d, limit)
		sees(t, "opened again", again, seen)
		if contents(d) != left {
			t.Fatalf("opened again, the files are %s, were %s", contents(d), left)
		}
		sees(t, "opened behind a crash", open(t, d.Crash(nil), limit), seen)
		l := []api.Entry{{Index: w.Last() + 1, Term: 1 << 63, Kind: api.EntryCommand}}
		if w.Last()+1 != 0 {
			must(t, w.Append(l), w.Sync())
			sees(t, "what was appended", open(t, d, limit), sight(t, w))
		}
	}
}

// randomBytes answers frames of entries that mostly follow each other, and now and then something else.
func randomBytes(t *testing.T, r *rand.Rand, index uint64) []byte {
	var b []byte
	term := r.Uint64N(3) + 1
	for range r.IntN(5) {
		switch r.IntN(12) {
		case 0:
			index += r.Uint64N(3)
		case 1:
			term = r.Uint64N(3) + 1
		case 2:
			b = append(b, make([]byte, r.IntN(20))...)
		case 3:
			b = append(b, framed(t, []byte("no entry"))...)
		}
		if index != 0 {
			b = append(b, frames(t, put(index, term, "x")...)...)
		}
		index++
	}
	if len(b) > 0 && r.IntN(4) == 0 {
		b = b[:r.IntN(len(b))]
	}
	return b
}

// P5.5: whichever bit is inverted, the entries before it are found, and no further one.
func TestInvertedBit(t *testing.T) {
	l := append(put(1, 1, "a", "bcd", ""), api.Entry{Index: 4, Term: 2}, api.Entry{Index: 5, Term: 2, Kind: api.EntryConfig, Data: []byte("v")}, api.Entry{Index: 6, Term: 3, Kind: api.EntryCommand, Data: []byte("last")})
	for _, limit := range []int{1, 60, 1000} {
		w, d := fresh(t, limit)
		must(t, w.Append(l), w.Sync())
		index := 0
		for _, n := range d.Names() {
			b, _ := d.Read(n)
			for at := 0; at < len(b); index++ {
				size := len(frames(t, l[index]))
				for bit := range 8 * size {
					x := d.Clone()
					x.Flip(n, at+bit/8, bit%8)
					found := open(t, x, limit)
					if got, want := collect(found, 0), writtenAll(l[:index]); got != want || found.First() != 1 {
						t.Fatalf("bit %d of entry %d: the log is %s, want %s", bit, index+1, got, want)
					}
					sees(t, "opened again", open(t, x, limit), sight(t, found))
				}
				at += size
			}
		}
		if index != len(l) {
			t.Fatalf("the files have %d entries, want %d", index, len(l))
		}
	}
}
