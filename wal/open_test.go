package wal_test

import (
	"math"
	"strings"
	"testing"

	"dockyard/api"
	"dockyard/disk"
	"dockyard/wal"
)

// P5.1: a disk without a segment gets an empty one by an Append and a Sync.
func TestOpenEmptyDisk(t *testing.T) {
	d := disk.New(0)
	w := open(t, d, 100)
	sees(t, "an empty disk", w, "1-0 ")
	has(t, "an empty disk", d, file{name(1), ""})
	if d.Steps() != 2 {
		t.Errorf("Open has done %d steps, want 2", d.Steps())
	}
	sees(t, "and again", open(t, d, 100), "1-0 ")
	if d.Steps() != 3 {
		t.Errorf("Open of an empty segment has done %d steps, want 1", d.Steps()-2)
	}
}

// P5.1: files with other names are no segments, and stay.
func TestOpenOtherFiles(t *testing.T) {
	other := []file{
		{"WAL.0000000000000001", "a"},
		{"vote", "b"},
		{"0000000000000001", "c"},
		{"wal", "d"},
		{"wal.", "e"},
		{"wal.0000000000000000", frames(t, put(1, 1, "zero")...)},
		{"wal.000000000000000", frames(t, put(1, 1, "fifteen digits of 0")...)},
		{"wal.000000000000001", frames(t, put(1, 1, "fifteen")...)},
		{"wal.00000000000000001", frames(t, put(1, 1, "seventeen")...)},
		{"wal.1", frames(t, put(1, 1, "one")...)},
		{"wal.000000000000000A", frames(t, put(10, 1, "a great letter")...)},
		{"wal.000000000000000g", "f"},
		{"wal.+000000000000001", "g"},
		{"wal.-000000000000001", "h"},
		{"wal.0x00000000000001", "i"},
		{"wal.0000_00000000001", "j"},
		{"wal.0000000000000001.new", "k"},
		{"wal-0000000000000001", "l"},
		{"xwal.0000000000000001", "m"},
		{"wal.wal.000000000001", "n"},
	}
	d := lay(t, other...)
	sees(t, "files that are no segments", open(t, d, 1), "1-0 ")
	has(t, "files that are no segments", d, append(other, file{name(1), ""})...)

	d = lay(t, append(other, file{name(10), frames(t, put(10, 2, "x", "y")...)})...)
	w := open(t, d, 1)
	sees(t, "a segment among them", w, "10-11 10/2/1:x 11/2/1:y")
	must(t, w.Append(put(12, 2, "z")), w.Truncate(11), w.Reset(20))
	has(t, "what is written among them", d, append(other, file{name(21), ""})...)
}

// An ending is a disk on which a log ends somewhere: what Open finds, and what it leaves.
type ending struct {
	what  string
	files []file
	want  string
	left  []file
}

func checkEndings(t *testing.T, endings []ending) {
	t.Helper()
	for _, c := range endings {
		for _, limit := range []int{1, 100, math.MaxInt, 0, math.MinInt} {
			d := lay(t, c.files...)
			sees(t, c.what, open(t, d, limit), c.want)
			has(t, c.what, d, c.left...)
			durable(t, c.what, d, c.left...)
			sees(t, c.what+", opened again", open(t, d, limit), c.want)
			has(t, c.what+", opened again", d, c.left...)
		}
	}
}

// P5.1: logs that end where the files do.
func TestOpenWhole(t *testing.T) {
	ab, c := frames(t, put(1, 1, "a", "b")...), frames(t, put(3, 4, "c")...)
	none := api.Entry{Index: 4, Term: 4}
	config := api.Entry{Index: math.MaxUint64, Term: math.MaxUint64, Kind: api.EntryConfig, Data: []byte("v")}
	checkEndings(t, []ending{
		{"one segment", []file{{name(1), ab}}, "1-2 1/1/1:a 2/1/1:b", []file{{name(1), ab}}},
		{
			"three segments", []file{{name(4), frames(t, none)}, {name(3), c}, {name(1), ab}},
			"1-4 1/1/1:a 2/1/1:b 3/4/1:c 4/4/0:", []file{{name(1), ab}, {name(3), c}, {name(4), frames(t, none)}},
		},
		{"a later beginning", []file{{name(3), c}}, "3-3 3/4/1:c", []file{{name(3), c}}},
		{"an empty segment", []file{{name(0xabcdef), ""}}, "11259375-11259374 ", []file{{name(0xabcdef), ""}}},
		{
			"the greatest index", []file{{name(math.MaxUint64), frames(t, config)}},
			"18446744073709551615-18446744073709551615 18446744073709551615/18446744073709551615/2:v",
			[]file{{name(math.MaxUint64), frames(t, config)}},
		},
		{
			"numbers by size", []file{{name(9), frames(t, put(9, 1, "i")...)}, {name(10), frames(t, put(10, 1, "j", "k", "l", "m", "n", "o")...)}, {name(16), frames(t, put(16, 1, "p")...)}},
			"9-16 9/1/1:i 10/1/1:j 11/1/1:k 12/1/1:l 13/1/1:m 14/1/1:n 15/1/1:o 16/1/1:p",
			[]file{{name(9), frames(t, put(9, 1, "i")...)}, {name(10), frames(t, put(10, 1, "j", "k", "l", "m", "n", "o")...)}, {name(16), frames(t, put(16, 1, "p")...)}},
		},
	})
}

// P5.1: bytes at which the log ends, behind two entries of term 2; the segments after them go.
func TestOpenEnds(t *testing.T) {
	a, b := frames(t, put(1, 2, "a")...), frames(t, put(2, 2, "b")...)
	c, d := frames(t, put(3, 2, "c")...), frames(t, put(4, 2, "d")...)
	inside := c[8 : len(c)-4]
	flipped := []byte(c)
	flipped[14] ^= 1
	for what, bad := range map[string]string{
		"a byte":                         c[:1],
		"half a head":                    c[:7],
		"a head":                         c[:8],
		"a frame but for its last byte":  c[:len(c)-1],
		"zeros":                          strings.Repeat("\x00", 40),
		"a changed frame":                string(flipped),
		"a changed frame, and a whole":   string(flipped) + c,
		"a frame of nothing":             framed(t, nil),
		"a frame of no entry":            framed(t, []byte(inside[4:])),
		"an entry and a byte":            framed(t, []byte(inside+"x")),
		"an entry but for its last byte": framed(t, []byte(inside[:len(inside)-1])),
		"an entry without a frame":       inside,
		"an entry of no kind":            framed(t, []byte(inside[:16]+"\x03"+inside[17:])),
		"index 0":                        framed(t, []byte(strings.Repeat("\x00", 8)+inside[8:])),
		"the last index again":           frames(t, put(2, 2, "c")...),
		"the first index again":          frames(t, put(1, 2, "c")...),
		"an index too far":               frames(t, put(4, 2, "c")...),
		"the greatest index":             frames(t, put(math.MaxUint64, 2, "c")...),
		"a lower term":                   frames(t, put(3, 1, "c")...),
		"a lower term, and a right one":  frames(t, put(3, 1, "c")...) + c,
	} {
		checkEndings(t, []ending{
			{what, []file{{name(1), a + b + bad}}, "1-2 1/2/1:a 2/2/1:b", []file{{name(1), a + b}}},
			{
				what + ", and a segment", []file{{name(1), a + b + bad}, {name(3), c}, {name(4), d}},
				"1-2 1/2/1:a 2/2/1:b", []file{{name(1), a + b}},
			},
			{
				what + " in the second segment", []file{{name(1), a}, {name(2), b + bad}, {name(3), c}},
				"1-2 1/2/1:a 2/2/1:b", []file{{name(1), a}, {name(2), b}},
			},
			{
				what + " at the front of a segment", []file{{name(1), a + b}, {name(3), bad}, {name(4), d}, {name(5), ""}},
				"1-2 1/2/1:a 2/2/1:b", []file{{name(1), a + b}, {name(3), ""}},
			},
		})
	}
}

// P5.1: segments whose first entry, or whose number, does not follow.
func TestOpenSegmentsEnd(t *testing.T) {
	ab, c, d := frames(t, put(1, 2, "a", "b")...), frames(t, put(3, 2, "c")...), frames(t, put(4, 2, "d")...)
	two := "1-2 1/2/1:a 2/2/1:b"
	checkEndings(t, []ending{
		{"a first entry before its number", []file{{name(3), ab + c}}, "3-2 ", []file{{name(3), ""}}},
		{"a first entry beyond its number", []file{{name(2), c + d}}, "2-1 ", []file{{name(2), ""}}},
		{"garbage alone", []file{{name(7), "garbage"}, {name(8), ""}, {name(9), c}}, "7-6 ", []file{{name(7), ""}}},
		{"a number too far", []file{{name(1), ab}, {name(4), d}}, two, []file{{name(1), ab}}},
		{"a number too near", []file{{name(1), ab}, {name(2), c}}, two, []file{{name(1), ab}}},
		{"a number too far, with the right entry", []file{{name(1), ab}, {name(4), c}, {name(5), d}}, two, []file{{name(1), ab}}},
		{"the right number, with the wrong entry", []file{{name(1), ab}, {name(3), d}, {name(4), d}}, two, []file{{name(1), ab}, {name(3), ""}}},
		{"an empty segment last", []file{{name(1), ab}, {name(3), ""}}, two, []file{{name(1), ab}, {name(3), ""}}},
		{"an empty segment between", []file{{name(1), ab}, {name(3), ""}, {name(4), d}}, two, []file{{name(1), ab}, {name(3), ""}}},
		{"an empty segment first", []file{{name(1), ""}, {name(2), frames(t, put(2, 1, "b")...)}}, "1-0 ", []file{{name(1), ""}}},
		{"a lower term in the next segment", []file{{name(1), ab}, {name(3), frames(t, put(3, 1, "c")...)}, {name(4), d}}, two, []file{{name(1), ab}, {name(3), ""}}},
		{
			"garbage behind the last entry of the second of four", []file{{name(1), ab}, {name(3), c + "x"}, {name(4), d}, {name(5), ""}},
			"1-3 1/2/1:a 2/2/1:b 3/2/1:c", []file{{name(1), ab}, {name(3), c}},
		},
		{
			"the number of the greatest segment", []file{{name(1), ab}, {name(math.MaxUint64), ab}},
			two, []file{{name(1), ab}},
		},
		{
			"behind the greatest index", []file{{name(math.MaxUint64), frames(t, put(math.MaxUint64, 1, "z")...) + framed(t, []byte(strings.Repeat("\x00", 15)+"\x01\x01\x00"))}},
			"18446744073709551615-18446744073709551615 18446744073709551615/1/1:z", []file{{name(math.MaxUint64), frames(t, put(math.MaxUint64, 1, "z")...)}},
		},
	})
}

// P5.1: a disk that fails at each step in turn tells their order: Remove of the last segments first, Truncate, Sync of the first ones first.
func TestOpenOrder(t *testing.T) {
	a, b, c := frames(t, put(1, 1, "a")...), frames(t, put(2, 1, "b")...), frames(t, put(3, 1, "c")...)
	first, second, cut := file{name(1), a}, file{name(2), b + "rest"}, file{name(2), b}
	third, fourth := file{name(3), c}, file{name(5), "any"}
	for at, c := range []struct{ files, durable []file }{
		{[]file{first, second, third, fourth}, []file{{name(1), ""}, {name(2), ""}, {name(3), ""}, {name(5), ""}}},
		{[]file{first, second, third}, []file{{name(1), ""}, {name(2), ""}, {name(3), ""}}},
		{[]file{first, second}, []file{{name(1), ""}, {name(2), ""}}},
		{[]file{first, cut}, []file{{name(1), ""}, {name(2), ""}}},
		{[]file{first, cut}, []file{first, {name(2), ""}}},
	} {
		d := lay(t, first, second, third, fourth)
		d.Arm(at)
		if w, code := wal.Open(d, 1); w != nil || code != api.ErrDiskDead {
			t.Errorf("at step %d Open answers %v, %d, want nil, ErrDiskDead", at, w, code)
		}
		has(t, "a disk that fails", d, c.files...)
		durable(t, "a disk that fails", d, c.durable...)
	}
	d := lay(t, first, second, third, fourth)
	d.Arm(5)
	sees(t, "a disk that fails later", open(t, d, 1), "1-2 1/1/1:a 2/1/1:b")
	durable(t, "a disk that fails later", d, first, cut)
	if d.Steps() != 4+5 {
		t.Errorf("Open has done %d steps, want 5", d.Steps()-4)
	}
}

// P5.1: of a disk that fails at once, or is dead, no log is had.
func TestOpenDead(t *testing.T) {
	for at, want := range []string{name(1), name(1)} {
		d := disk.New(100)
		d.Arm(at)
		if w, code := wal.Open(d, 1); w != nil || code != api.ErrDiskDead || strings.Join(d.Names(), " ") != want {
			t.Errorf("a new disk that fails at step %d: Open answers %v, %d, and the files are %q", at, w, code, d.Names())
		}
		before := look(d)
		if w, code := wal.Open(d, 1); w != nil || code != api.ErrDiskDead || look(d) != before {
			t.Errorf("a dead disk: Open answers %v, %d, and it is %s, was %s", w, code, look(d), before)
		}
	}
	d := disk.New(100)
	d.Arm(0)
	d.Append("x", nil)
	if w, code := wal.Open(d, 1); w != nil || code != api.ErrDiskDead || len(d.Names()) != 1 {
		t.Errorf("a dead disk without segments: Open answers %v, %d, and the files are %q", w, code, d.Names())
	}
}

// P5.1: nothing is cut off, or removed, where there is nothing: only the syncs are steps.
func TestOpenStepsOfWhole(t *testing.T) {
	d := lay(t, file{name(1), frames(t, put(1, 1, "a")...)}, file{name(2), frames(t, put(2, 1, "b")...)}, file{name(3), ""})
	open(t, d, 1)
	if d.Steps() != 3+3 {
		t.Errorf("Open of three segments has done %d steps, want 3", d.Steps()-3)
	}
}
