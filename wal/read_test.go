package wal_test

import (
	"fmt"
	"math"
	"testing"

	"dockyard/api"
)

// P5.2: the indices of logs that are empty, that begin late, and that end at the greatest index.
func TestFirstAndLast(t *testing.T) {
	w, _ := fresh(t, 30)
	for _, c := range []struct {
		what        string
		do          func() api.Errno
		first, last uint64
	}{
		{"nothing", func() api.Errno { return api.OK }, 1, 0},
		{"an entry", func() api.Errno { return w.Append(put(1, 1, "a")) }, 1, 1},
		{"three more", func() api.Errno { return w.Append(put(2, 1, "b", "c", "d")) }, 1, 4},
		{"a cut", func() api.Errno { return w.Truncate(4) }, 1, 3},
		{"a removed segment", func() api.Errno { return w.Compact(1) }, 2, 3},
		{"all cut", func() api.Errno { return w.Truncate(2) }, 2, 1},
		{"begun anew", func() api.Errno { return w.Reset(0) }, 1, 0},
		{"begun late", func() api.Errno { return w.Reset(99) }, 100, 99},
		{"an entry there", func() api.Errno { return w.Append(put(100, 7, "x")) }, 100, 100},
		{"begun last", func() api.Errno { return w.Reset(math.MaxUint64 - 1) }, math.MaxUint64, math.MaxUint64 - 1},
		{"the last entry", func() api.Errno { return w.Append(put(math.MaxUint64, 1, "z")) }, math.MaxUint64, math.MaxUint64},
	} {
		answers(t, c.what, c.do(), api.OK)
		if w.First() != c.first || w.Last() != c.last {
			t.Errorf("%s: First and Last are %d, %d, want %d, %d", c.what, w.First(), w.Last(), c.first, c.last)
		}
	}
}

// P5.2: an entry is had by its index, and by no other.
func TestGet(t *testing.T) {
	w, _ := fresh(t, 60)
	must(t, w.Reset(4))
	l := append(put(5, 1, "a", "b", "c"), api.Entry{Index: 8, Term: 2}, api.Entry{Index: 9, Term: 3, Kind: api.EntryConfig, Data: []byte("v")})
	must(t, w.Append(l))
	for _, want := range l {
		if e, there := w.Get(want.Index); !there || written(e) != written(want) {
			t.Errorf("Get(%d) answers %s, %v, want %s", want.Index, written(e), there, written(want))
		}
	}
	for _, index := range []uint64{0, 1, 4, 10, 11, 1 << 63, math.MaxUint64 - 1, math.MaxUint64} {
		if e, there := w.Get(index); there || e.Data != nil || written(e) != written(api.Entry{}) {
			t.Errorf("Get(%d) answers %v, %v, want the zero entry and false", index, e, there)
		}
	}
}

// P5.2: the entries from an index on, which need not be that of an entry.
func TestAll(t *testing.T) {
	w, _ := fresh(t, 60)
	for _, from := range []uint64{0, 1, 2, math.MaxUint64} {
		if s := collect(w, from); s != "" {
			t.Errorf("All(%d) of an empty log gives %s", from, s)
		}
	}
	must(t, w.Reset(4), w.Append(put(5, 1, "a", "b", "c")))
	all := "5/1/1:a 6/1/1:b 7/1/1:c"
	for from, want := range map[uint64]string{
		0: all, 1: all, 4: all, 5: all, 6: all[8:], 7: all[16:],
		8: "", 9: "", 1 << 63: "", math.MaxUint64: "",
	} {
		if s := collect(w, from); s != want {
			t.Errorf("All(%d) gives %s, want %s", from, s, want)
		}
	}
	must(t, w.Reset(math.MaxUint64-2), w.Append(put(math.MaxUint64-1, 3, "y", "z")))
	for back, want := range []string{"18446744073709551615/3/1:z", "18446744073709551614/3/1:y 18446744073709551615/3/1:z"} {
		if s := collect(w, math.MaxUint64-uint64(back)); s != want {
			t.Errorf("All of the %d last ones gives %s, want %s", back+1, s, want)
		}
	}
}

// P5.2, R11: a loop may be left, and begun again; it has what is there when it begins.
func TestAllAgain(t *testing.T) {
	w, _ := fresh(t, 60)
	must(t, w.Append(put(1, 1, "a", "b", "c", "d")))
	loop := w.All(2)
	given := func(most int) string {
		s := ""
		loop(func(e api.Entry) bool {
			s += string(e.Data)
			return len(s) < most
		})
		return s
	}
	for most, want := range []string{"b", "b", "bc", "bcd", "bcd"} {
		if s := given(most); s != want {
			t.Errorf("a loop that is left after %d entries is given %s, want %s", most, s, want)
		}
	}
	for _, c := range []struct {
		do   func() api.Errno
		want string
	}{
		{func() api.Errno { return w.Truncate(4) }, "bc"},
		{func() api.Errno { return w.Append(put(4, 2, "x", "y")) }, "bcxy"},
		{func() api.Errno { return w.Compact(3) }, "cxy"},
		{func() api.Errno { return w.Reset(1) }, ""},
		{func() api.Errno { return w.Append(put(2, 1, "n")) }, "n"},
	} {
		must(t, c.do())
		if s := given(9); s != c.want {
			t.Errorf("a loop over a log that was changed is given %s, want %s", s, c.want)
		}
	}
}

// P5.2: whatever is done to the log during a loop, the loop ends, and is given what was there when it began.
func TestAllWhileChanged(t *testing.T) {
	for _, limit := range []int{1, 60, 1000} {
		for cut := range uint64(5) {
			w, _ := fresh(t, limit)
			must(t, w.Append(put(1, 1, "a", "b", "c")))
			s := ""
			for e := range w.All(0) {
				s += string(e.Data)
				if cut > 0 {
					must(t, w.Truncate(min(cut, w.Last()+1)))
				}
				must(t, w.Append(put(w.Last()+1, 1, "x", "y")))
			}
			if s != "abc" {
				t.Errorf("a log of the limit %d, cut at %d: the loop is given %s, want abc", limit, cut, s)
			}
		}
	}
	w, _ := fresh(t, 1)
	must(t, w.Append(put(1, 1, "a", "b", "c")))
	s := ""
	for e := range w.All(0) {
		s += string(e.Data)
		must(t, w.Reset(0), w.Append(put(1, 1, "x", "y", "z")), w.Compact(2))
	}
	if s != "abc" {
		t.Errorf("a log begun anew: the loop is given %s, want abc", s)
	}
}

// P5.2, P5.3, R5: entries are the caller's before and after.
func TestMemory(t *testing.T) {
	w, d := fresh(t, 60)
	data := append(make([]byte, 0, 16), "abc"...)
	l := append(make([]api.Entry, 0, 4), api.Entry{Index: 1, Term: 1, Kind: api.EntryCommand, Data: data}, api.Entry{Index: 2, Term: 1, Kind: api.EntryCommand, Data: data})
	must(t, w.Append(l))
	if behind := fmt.Sprintf("%q %v", data[:16], l[:4]); behind != fmt.Sprintf("%q %v", "abc"+string(make([]byte, 13)), append(l, api.Entry{}, api.Entry{})) {
		t.Errorf("Append has changed what it was given: %s", behind)
	}
	fill(data)
	l[0], l[1] = api.Entry{}, api.Entry{}
	want := "1-2 1/1/1:abc 2/1/1:abc"
	sees(t, "what was given is changed", w, want)
	for range 2 {
		e, _ := w.Get(1)
		fill(e.Data)
		for e := range w.All(0) {
			fill(e.Data)
		}
	}
	sees(t, "what was answered is changed", w, want)
	again := open(t, d, 60)
	for e := range again.All(0) {
		fill(e.Data)
	}
	sees(t, "what was answered by a log that was read", again, want)
	one, _ := again.Get(1)
	other, _ := again.Get(1)
	fill(one.Data)
	if string(other.Data) != "abc" {
		t.Errorf("two answers share memory: %q", other.Data)
	}
}
