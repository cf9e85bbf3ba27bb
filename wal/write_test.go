package wal_test

import (
	"math"
	"strings"
	"testing"

	"dockyard/api"
	"dockyard/disk"
	"dockyard/wal"
)

// The examples of the chapter.
func TestExamples(t *testing.T) {
	w, d := fresh(t, 1)
	sees(t, "an empty disk", w, "1-0 ")
	has(t, "an empty disk", d, file{name(1), ""})
	one, two := file{name(1), frames(t, put(1, 1, "")...)}, file{name(2), frames(t, put(2, 1, "")...)}
	answers(t, "Append", w.Append(put(1, 1, "", "")), api.OK)
	sees(t, "Append", w, "1-2 1/1/1: 2/1/1:")
	has(t, "Append", d, one, two)
	answers(t, "Append(4)", w.Append(put(4, 1, "")), api.ErrWalEntry)
	answers(t, "Append(3 of term 0)", w.Append(put(3, 0, "")), api.ErrWalEntry)
	answers(t, "Truncate(4)", w.Truncate(4), api.ErrWalRange)
	answers(t, "Truncate(2)", w.Truncate(2), api.OK)
	sees(t, "Truncate(2)", w, "1-1 1/1/1:")
	has(t, "Truncate(2)", d, one)
	answers(t, "Reset(9)", w.Reset(9), api.OK)
	sees(t, "Reset(9)", w, "10-9 ")
}

// P5.3: what does not follow, or is no entry, is refused whole, and nothing is written.
func TestAppendRefused(t *testing.T) {
	w, d := fresh(t, 60)
	first := func(e api.Entry) []api.Entry { return []api.Entry{e} }
	refused := func(what string, l []api.Entry) {
		t.Helper()
		seen, before := sight(t, w), look(d)
		answers(t, what, w.Append(l), api.ErrWalEntry)
		sees(t, what, w, seen)
		if look(d) != before {
			t.Errorf("%s: the disk is %s, was %s", what, look(d), before)
		}
	}
	for what, l := range map[string][]api.Entry{
		"the zero entry":     first(api.Entry{}),
		"index 0":            put(0, 1, "a"),
		"index 2":            put(2, 1, "a"),
		"the greatest index": put(math.MaxUint64, 1, "a"),
		"term 0":             put(1, 0, "a"),
		"kind 3":             first(api.Entry{Index: 1, Term: 1, Kind: 3}),
		"kind -1":            first(api.Entry{Index: 1, Term: 1, Kind: -1}),
		"none, with data":    first(api.Entry{Index: 1, Term: 1, Data: []byte("a")}),
		"too long":           put(1, 1, strings.Repeat("x", api.MaxData+1)),
		"a wrong one last":   append(put(1, 1, "a", "b", "c"), api.Entry{Index: 4, Term: 1, Kind: 9}),
	} {
		refused(what+" in an empty log", l)
	}
	must(t, w.Append(put(1, 1, "a")), w.Append(put(2, 5, "b", "c")))
	for what, l := range map[string][]api.Entry{
		"index 0":             put(0, 5, "x"),
		"the first index":     put(1, 5, "x"),
		"the last index":      put(3, 5, "x"),
		"an index too far":    put(5, 5, "x"),
		"a lower term":        put(4, 4, "x"),
		"term 0":              put(4, 0, "x"),
		"a gap":               append(put(4, 5, "x"), put(6, 5, "y")...),
		"an index again":      append(put(4, 5, "x"), put(4, 5, "y")...),
		"an index back":       append(put(4, 5, "x", "y"), put(5, 5, "y")...),
		"terms that decrease": append(put(4, 9, "x"), put(5, 8, "y")...),
		"a wrong one first":   append(put(4, 5, strings.Repeat("x", api.MaxData+1)), put(5, 5, "y")...),
	} {
		refused(what, l)
	}
	answers(t, "what follows, behind it", w.Append(put(4, 5, "x")), api.OK)
}

// P5.3: there is no entry behind the one with the greatest index.
func TestAppendGreatestIndex(t *testing.T) {
	for _, limit := range []int{1, 1000} {
		w, d := fresh(t, limit)
		must(t, w.Reset(math.MaxUint64-2))
		answers(t, "an entry too many", w.Append(put(math.MaxUint64-1, 1, "y", "z", "0")), api.ErrWalEntry)
		must(t, w.Append(put(math.MaxUint64-1, 1, "y", "z")), w.Append(nil))
		want := "18446744073709551614-18446744073709551615 18446744073709551614/1/1:y 18446744073709551615/1/1:z"
		sees(t, "the greatest index", w, want)
		for _, index := range []uint64{0, 1, math.MaxUint64, math.MaxUint64 - 1} {
			answers(t, "an entry behind it", w.Append(put(index, 1, "x")), api.ErrWalEntry)
		}
		sees(t, "the greatest index", open(t, d, limit), want)
		answers(t, "Truncate(0)", w.Truncate(0), api.ErrWalRange)
		answers(t, "Truncate before it", w.Truncate(math.MaxUint64-2), api.ErrWalRange)
		answers(t, "Compact(all)", w.Compact(math.MaxUint64), api.OK)
		if limit == 1 {
			sees(t, "Compact(all)", w, "18446744073709551615-18446744073709551615 18446744073709551615/1/1:z")
		}
		answers(t, "Truncate of it", w.Truncate(math.MaxUint64), api.OK)
		if w.Last() != math.MaxUint64-1 {
			t.Errorf("Last is %d, want that before the greatest index", w.Last())
		}
		answers(t, "Append of it", w.Append(put(math.MaxUint64, 1, "z")), api.OK)
	}
}

// P5.3: an entry comes to a new segment if the last one has limit bytes or more; that one is synced ahead, and nothing else is.
func TestAppendSegments(t *testing.T) {
	a, b, c := frames(t, put(1, 1, "a")...), frames(t, put(2, 1, "b")...), frames(t, put(3, 1, "c")...)
	size := len(a)
	for _, x := range []struct {
		limit          int
		files, durable []file
		steps          int
	}{
		{math.MinInt, []file{{name(1), a}, {name(2), b}, {name(3), c}}, []file{{name(1), a}, {name(2), b}, {name(3), ""}}, 5},
		{0, []file{{name(1), a}, {name(2), b}, {name(3), c}}, []file{{name(1), a}, {name(2), b}, {name(3), ""}}, 5},
		{1, []file{{name(1), a}, {name(2), b}, {name(3), c}}, []file{{name(1), a}, {name(2), b}, {name(3), ""}}, 5},
		{size, []file{{name(1), a}, {name(2), b}, {name(3), c}}, []file{{name(1), a}, {name(2), b}, {name(3), ""}}, 5},
		{size + 1, []file{{name(1), a + b}, {name(3), c}}, []file{{name(1), a + b}, {name(3), ""}}, 4},
		{2 * size, []file{{name(1), a + b}, {name(3), c}}, []file{{name(1), a + b}, {name(3), ""}}, 4},
		{2*size + 1, []file{{name(1), a + b + c}}, []file{{name(1), ""}}, 3},
		{math.MaxInt, []file{{name(1), a + b + c}}, []file{{name(1), ""}}, 3},
	} {
		together, d := fresh(t, x.limit)
		must(t, together.Append(put(1, 1, "a", "b", "c")))
		apart, each := fresh(t, x.limit)
		must(t, apart.Append(put(1, 1, "a")), apart.Append(nil), apart.Append(put(2, 1, "b")), apart.Append([]api.Entry{}), apart.Append(put(3, 1, "c")))
		if look(d) != look(each) {
			t.Errorf("limit %d: together the disk is %s, apart %s", x.limit, look(d), look(each))
		}
		has(t, "Append", d, x.files...)
		durable(t, "Append", d, x.durable...)
		if d.Steps() != 2+x.steps {
			t.Errorf("limit %d: Append has done %d steps, want %d", x.limit, d.Steps()-2, x.steps)
		}
		must(t, together.Sync())
		durable(t, "Sync", d, x.files...)
		if d.Steps() != 2+x.steps+1 {
			t.Errorf("limit %d: Sync has done %d steps, want 1", x.limit, d.Steps()-2-x.steps)
		}
	}
}

// P5.3: a log that was read goes on in its last segment, even if that is empty.
func TestAppendBehindOpen(t *testing.T) {
	a, b, c := frames(t, put(1, 1, "a")...), frames(t, put(2, 1, "b")...), frames(t, put(3, 1, "c")...)
	for _, x := range []struct{ before, after []file }{
		{[]file{{name(1), a + b}}, []file{{name(1), a + b}, {name(3), c}}},
		{[]file{{name(1), a + b}, {name(3), ""}}, []file{{name(1), a + b}, {name(3), c}}},
		{[]file{{name(1), a}, {name(2), b}}, []file{{name(1), a}, {name(2), b + c}}},
		{[]file{{name(1), a}, {name(2), b + "garbage that would fill it"}}, []file{{name(1), a}, {name(2), b + c}}},
	} {
		d := lay(t, x.before...)
		must(t, open(t, d, 2*len(a)).Append(put(3, 1, "c")))
		has(t, "Append", d, x.after...)
	}
	d := lay(t, file{name(1), a + b}, file{name(3), ""})
	w := open(t, d, 1)
	must(t, w.Truncate(3))
	has(t, "an empty segment is removed", d, file{name(1), a + b})
	sees(t, "an empty segment is removed", w, "1-2 1/1/1:a 2/1/1:b")
	d = lay(t, file{name(1), a + b}, file{name(3), ""})
	w = open(t, d, 1)
	must(t, w.Compact(2))
	has(t, "an empty segment is left", d, file{name(3), ""})
	sees(t, "an empty segment is left", w, "3-2 ")
}

// five answers a log with the entries 1 and 2, 3 and 4, and 5, in three segments.
func five(t *testing.T) (*wal.Wal, *disk.Disk, [3]file) {
	t.Helper()
	a, b, c := frames(t, put(1, 1, "a", "b")...), frames(t, put(3, 1, "c", "d")...), frames(t, put(5, 1, "e")...)
	w, d := fresh(t, len(a))
	must(t, w.Append(put(1, 1, "a", "b", "c", "d", "e")))
	return w, d, [3]file{{name(1), a}, {name(3), b}, {name(5), c}}
}

// P5.3: Truncate at each index, with the steps that it takes.
func TestTruncate(t *testing.T) {
	for from, c := range map[uint64]struct {
		want  string
		left  func(f [3]file) []file
		steps int
	}{
		1: {"1-0 ", func(f [3]file) []file { return []file{{f[0].name, ""}} }, 3},
		2: {"1-1 1/1/1:a", func(f [3]file) []file { return []file{{f[0].name, frames(t, put(1, 1, "a")...)}} }, 3},
		3: {"1-2 1/1/1:a 2/1/1:b", func(f [3]file) []file { return f[:1] }, 2},
		4: {"1-3 1/1/1:a 2/1/1:b 3/1/1:c", func(f [3]file) []file { return []file{f[0], {f[1].name, frames(t, put(3, 1, "c")...)}} }, 2},
		5: {"1-4 1/1/1:a 2/1/1:b 3/1/1:c 4/1/1:d", func(f [3]file) []file { return f[:2] }, 1},
		6: {"1-5 1/1/1:a 2/1/1:b 3/1/1:c 4/1/1:d 5/1/1:e", func(f [3]file) []file { return f[:] }, 0},
	} {
		w, d, f := five(t)
		before := d.Steps()
		answers(t, "Truncate", w.Truncate(from), api.OK)
		sees(t, "Truncate", w, c.want)
		has(t, "Truncate", d, c.left(f)...)
		if d.Steps() != before+c.steps {
			t.Errorf("Truncate(%d) has done %d steps, want %d", from, d.Steps()-before, c.steps)
		}
		sees(t, "Truncate, opened again", open(t, d.Clone(), 1), c.want)
		must(t, w.Append(put(from, 2, "n", "m")), w.Sync())
		sees(t, "what is read behind it", open(t, d, 1), sight(t, w))
	}
}

// P5.3: indices that Truncate, Compact and Reset refuse, without any effect.
func TestRangeRefused(t *testing.T) {
	w, d, _ := five(t)
	must(t, w.Compact(2))
	seen, before := sight(t, w), look(d)
	for _, from := range []uint64{0, 1, 2, 7, 8, math.MaxUint64} {
		answers(t, "Truncate", w.Truncate(from), api.ErrWalRange)
	}
	for _, upto := range []uint64{6, 7, 1 << 63, math.MaxUint64} {
		answers(t, "Compact", w.Compact(upto), api.ErrWalRange)
	}
	answers(t, "Reset", w.Reset(math.MaxUint64), api.ErrWalRange)
	sees(t, "what is refused", w, seen)
	if look(d) != before {
		t.Errorf("what is refused: the disk is %s, was %s", look(d), before)
	}
	answers(t, "Sync behind it", w.Sync(), api.OK)

	w, d = fresh(t, 1)
	before = look(d)
	for _, index := range []uint64{0, 2, math.MaxUint64} {
		answers(t, "Truncate of an empty log", w.Truncate(index), api.ErrWalRange)
	}
	answers(t, "Truncate of nothing", w.Truncate(1), api.OK)
	answers(t, "Compact of an empty log", w.Compact(1), api.ErrWalRange)
	answers(t, "Compact of nothing", w.Compact(0), api.OK)
	sees(t, "an empty log", w, "1-0 ")
	if look(d) != before {
		t.Errorf("an empty log: the disk is %s, was %s", look(d), before)
	}
}

// P5.3: Compact removes segments as wholes, and never the last one.
func TestCompact(t *testing.T) {
	all := "1/1/1:a 2/1/1:b 3/1/1:c 4/1/1:d 5/1/1:e"
	for upto, gone := range []int{0, 0, 1, 1, 2, 2} {
		w, d, f := five(t)
		before := d.Steps()
		answers(t, "Compact", w.Compact(uint64(upto)), api.OK)
		want := []string{"1-5 " + all, "3-5 " + all[16:], "5-5 " + all[32:]}[gone]
		sees(t, "Compact", w, want)
		has(t, "Compact", d, f[gone:]...)
		if d.Steps() != before+gone {
			t.Errorf("Compact(%d) has done %d steps, want %d", upto, d.Steps()-before, gone)
		}
		must(t, w.Compact(uint64(upto)))
		sees(t, "Compact again", w, want)
		sees(t, "Compact, opened again", open(t, d.Clone(), 1), want)
		must(t, w.Append(put(6, 1, "n")), w.Sync())
		sees(t, "what is read behind it", open(t, d, 1), want[:2]+"6"+want[3:]+" 6/1/1:n")
	}
}

// P5.3: Reset begins anew at any index, with any terms.
func TestReset(t *testing.T) {
	for index, want := range map[uint64]string{0: "1-0 ", 2: "3-2 ", 5: "6-5 ", 6: "7-6 ", 1 << 40: "1099511627777-1099511627776 ", math.MaxUint64 - 1: "18446744073709551615-18446744073709551614 "} {
		w, d, _ := five(t)
		before := d.Steps()
		answers(t, "Reset", w.Reset(index), api.OK)
		sees(t, "Reset", w, want)
		has(t, "Reset", d, file{name(index + 1), ""})
		if d.Steps() != before+5 {
			t.Errorf("Reset(%d) has done %d steps, want 5", index, d.Steps()-before)
		}
		sees(t, "Reset, opened again", open(t, d.Clone(), 1), want)
		must(t, w.Append(put(index+1, 1, "n")))
		has(t, "what is written behind it", d, file{name(index + 1), frames(t, put(index+1, 1, "n")...)})
	}
	w, _ := fresh(t, 1)
	must(t, w.Append(put(1, 9, "a")), w.Reset(1), w.Append(put(2, 1, "b")))
	sees(t, "a lower term behind Reset", w, "2-2 2/1/1:b")
	must(t, w.Truncate(2), w.Append(put(2, 1, "c")))
	sees(t, "behind a Truncate of all", w, "2-2 2/1/1:c")
}

// P5.3: behind a Truncate the terms count from the last entry that is left.
func TestTermsBehindTruncate(t *testing.T) {
	w, _ := fresh(t, 60)
	must(t, w.Append(put(1, 3, "a")), w.Append(put(2, 7, "b")), w.Truncate(2))
	answers(t, "a term below what is left", w.Append(put(2, 2, "x")), api.ErrWalEntry)
	answers(t, "a term below what was cut", w.Append(put(2, 3, "x")), api.OK)
	sees(t, "terms", w, "1-2 1/3/1:a 2/3/1:x")
}

// calls are those that write, each of which does steps to the log of five.
func calls() []call {
	return []call{
		{kind: 0, entries: put(6, 1, "f", "g", "h", "i")},
		{kind: 1},
		{kind: 2, number: 2},
		{kind: 3, number: 5},
		{kind: 4, number: 9},
	}
}

// P5.3: whichever step of whichever call fails, the log is what it was, and all calls answer that error from then on, ahead of any other, and write nothing.
func TestBroken(t *testing.T) {
	for i, c := range calls() {
		for at := range 100 {
			w, d, _ := five(t)
			seen := sight(t, w)
			loop := w.All(2)
			d.Arm(at)
			code := c.do(w)
			if code == api.OK {
				if at != []int{6, 1, 3, 2, 5}[i] {
					t.Errorf("%v has done %d steps", c, at)
				}
				break
			}
			answers(t, c.String(), code, api.ErrDiskDead)
			sees(t, c.String(), w, seen)
			before := look(d)
			staysBroken(t, w, api.ErrDiskDead)
			sees(t, c.String(), w, seen)
			if look(d) != before {
				t.Errorf("behind %v: the disk is %s, was %s", c, look(d), before)
			}
			given := 0
			for range loop {
				given++
			}
			if given != 4 {
				t.Errorf("behind %v: a loop is given %d entries, want 4", c, given)
			}
		}
	}
}

// staysBroken fails the test unless every call that writes answers the error, whatever it is given.
func staysBroken(t *testing.T, w *wal.Wal, want api.Errno) {
	t.Helper()
	for _, c := range append(calls(), []call{
		{kind: 0}, {kind: 0, entries: put(0, 0, "x")}, {kind: 2, number: 0}, {kind: 2, number: 6},
		{kind: 3, number: 0}, {kind: 3, number: math.MaxUint64}, {kind: 4, number: math.MaxUint64},
	}...) {
		answers(t, "behind an error "+c.String(), c.do(w), want)
	}
}

// P5.3: a disk that would do the next step, were it asked, is not asked.
func TestBrokenByFullDisk(t *testing.T) {
	size := len(frames(t, put(1, 1, "a")...))
	d := disk.New(3*size - 1)
	w := open(t, d, 1)
	must(t, w.Append(put(1, 1, "a")))
	answers(t, "a full disk", w.Append(put(2, 1, "b", "c")), api.ErrDiskFull)
	sees(t, "a full disk", w, "1-1 1/1/1:a")
	before := look(d)
	staysBroken(t, w, api.ErrDiskFull)
	sees(t, "a full disk", w, "1-1 1/1/1:a")
	if look(d) != before {
		t.Errorf("a full disk: it is %s, was %s", look(d), before)
	}
	sees(t, "a full disk, opened again", open(t, d, 1), "1-2 1/1/1:a 2/1/1:b")

	w, d, _ = five(t)
	seen := sight(t, w)
	d.Wipe()
	answers(t, "Sync of a file that is gone", w.Sync(), api.ErrDiskNone)
	staysBroken(t, w, api.ErrDiskNone)
	sees(t, "a file that is gone", w, seen)
	if n := len(d.Names()); n != 0 {
		t.Errorf("there are %d files, want none", n)
	}
}

// P5.3: what is refused does not break the log.
func TestRefusedIsNotBroken(t *testing.T) {
	w, _, _ := five(t)
	answers(t, "Append", w.Append(put(9, 1, "x")), api.ErrWalEntry)
	answers(t, "Truncate", w.Truncate(9), api.ErrWalRange)
	answers(t, "Compact", w.Compact(9), api.ErrWalRange)
	answers(t, "Reset", w.Reset(math.MaxUint64), api.ErrWalRange)
	must(t, w.Append(put(6, 1, "f")), w.Sync(), w.Truncate(6), w.Compact(2), w.Reset(3))
}
