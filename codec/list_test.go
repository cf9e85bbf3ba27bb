package codec_test

import (
	"bytes"
	"math"
	"slices"
	"testing"

	"dockyard/api"
	"dockyard/codec"
)

func putWords(l []uint32) []byte {
	return written(func(w *codec.Writer) { codec.Put(w, l, (*codec.Writer).Word) })
}

func readWords(r *codec.Reader, most int) []uint32 {
	return codec.List(r, most, (*codec.Reader).Word)
}

// P1.3: Put.
func TestPut(t *testing.T) {
	if b := putWords([]uint32{5, 258}); !bytes.Equal(b, []byte{2, 0, 0, 0, 5, 0, 0, 1, 2}) {
		t.Errorf("Put = % x", b)
	}
	if b := putWords(nil); !bytes.Equal(b, []byte{0}) {
		t.Errorf("Put(nil) = % x", b)
	}
	many := make([]byte, 253)
	for i := range many {
		many[i] = byte(i)
	}
	b := written(func(w *codec.Writer) { w.Byte(9); codec.Put(w, many, (*codec.Writer).Byte) })
	if want := append([]byte{9, 253, 0, 253}, many...); !bytes.Equal(b, want) {
		t.Errorf("Put of 253 bytes = % x", b)
	}
}

// P1.3: List.
func TestList(t *testing.T) {
	b := append(putWords([]uint32{5, 6, 7}), 9)
	for _, most := range []int{3, 4, math.MaxInt} {
		r := codec.Read(b)
		if l := readWords(r, most); !slices.Equal(l, []uint32{5, 6, 7}) || r.Left() != 1 || r.Err() != api.OK {
			t.Errorf("List(%d) = %d, Left %d, Err %d", most, l, r.Left(), r.Err())
		}
	}
	r := codec.Read([]byte{0})
	if l := readWords(r, 0); len(l) != 0 || r.End() != api.OK {
		t.Errorf("List of none = %d, End %d", l, r.End())
	}
	texts := [][]byte{[]byte("a"), nil, []byte("bc")}
	r = codec.Read(written(func(w *codec.Writer) { codec.Put(w, texts, (*codec.Writer).Text) }))
	l := codec.List(r, 3, func(r *codec.Reader) []byte { return r.Text(2) })
	if !slices.EqualFunc(l, texts, bytes.Equal) || r.End() != api.OK {
		t.Errorf("List of texts = %q, End %d", l, r.End())
	}
}

// P1.3: List of a count that is refused calls nothing and consumes nothing.
func TestListCountErrors(t *testing.T) {
	for _, c := range []struct {
		b    []byte
		most int
		want api.Errno
	}{
		{nil, 3, api.ErrCodecShort},
		{nil, -1, api.ErrCodecShort},
		{[]byte{253, 0}, -1, api.ErrCodecShort},
		{[]byte{253, 0, 1, 1}, 3, api.ErrCodecForm},
		{[]byte{253, 0, 1, 1}, -1, api.ErrCodecForm},
		{[]byte{3, 1, 1, 1}, 2, api.ErrCodecLong},
		{[]byte{0}, -1, api.ErrCodecLong},
		{[]byte{0}, math.MinInt, api.ErrCodecLong},
		{[]byte{255, 255, 255, 255, 255, 255, 255, 255, 255}, math.MaxInt, api.ErrCodecLong},
		{[]byte{255, 255, 255, 255, 255, 255, 255, 255, 255}, -1, api.ErrCodecLong},
	} {
		calls := 0
		one := func(r *codec.Reader) byte { calls++; return r.Byte() }
		r := codec.Read(c.b)
		if l := codec.List(r, c.most, one); len(l) != 0 || calls != 0 {
			t.Errorf("List(%d) of % x = %d after %d calls", c.most, c.b, l, calls)
		}
		failed(t, "List", r, len(c.b), c.want)
		r = codec.Read(c.b)
		for i, x := range codec.Items(r, c.most, one) {
			t.Errorf("Items(%d) of % x yields %d, %d", c.most, c.b, i, x)
		}
		if calls != 0 {
			t.Errorf("Items(%d) of % x: %d calls", c.most, c.b, calls)
		}
		failed(t, "Items", r, len(c.b), c.want)
	}
}

// P1.3: where an element fails, what was read before stays consumed, and no more is read.
func TestListElementErrors(t *testing.T) {
	for _, c := range []struct {
		name  string
		b     []byte
		one   func(r *codec.Reader) uint32
		calls int
		left  int
		want  api.Errno
	}{
		{"cut off", putWords([]uint32{5, 6, 7})[:12], (*codec.Reader).Word, 3, 3, api.ErrCodecShort},
		{"a huge count", []byte{255, 0, 255, 255, 255, 255, 255, 255, 255, 0, 0, 0, 1}, (*codec.Reader).Word, 2, 0, api.ErrCodecShort},
		{"one fails", putWords([]uint32{5, 6, 7}), func(r *codec.Reader) uint32 {
			n := r.Word()
			if n == 6 {
				r.Fail(api.ErrArg)
			}
			return n
		}, 2, 4, api.ErrArg},
		{"the last one fails", putWords([]uint32{5, 6}), func(r *codec.Reader) uint32 {
			n := r.Word()
			if n == 6 {
				r.Fail(api.ErrEntryForm)
			}
			return n
		}, 2, 0, api.ErrEntryForm},
	} {
		calls := 0
		one := func(r *codec.Reader) uint32 { calls++; return c.one(r) }
		r := codec.Read(c.b)
		if l := codec.List(r, math.MaxInt, one); l != nil || calls != c.calls {
			t.Errorf("%s: List = %d after %d calls", c.name, l, calls)
		}
		failed(t, c.name, r, c.left, c.want)

		calls = 0
		yielded := 0
		r = codec.Read(c.b)
		for i := range codec.Items(r, math.MaxInt, one) {
			if i != yielded {
				t.Errorf("%s: Items yields the index %d, not %d", c.name, i, yielded)
			}
			yielded++
		}
		if calls != c.calls || yielded != c.calls-1 {
			t.Errorf("%s: Items yields %d after %d calls", c.name, yielded, calls)
		}
		failed(t, c.name, r, c.left, c.want)
	}
}

// P1.3: a reader that has failed before yields no list, and one is not called.
func TestListOfFailedReader(t *testing.T) {
	r := codec.Read(putWords([]uint32{5, 6}))
	r.Fail(api.ErrArg)
	calls := 0
	one := func(r *codec.Reader) uint32 { calls++; return 1 }
	if l := codec.List(r, 9, one); l != nil || calls != 0 {
		t.Errorf("List = %d after %d calls", l, calls)
	}
	for i := range codec.Items(r, 9, one) {
		t.Errorf("Items yields %d", i)
	}
	if calls != 0 {
		t.Errorf("Items: %d calls", calls)
	}
	failed(t, "List", r, 9, api.ErrArg)
}

// P1.3: Items yields indices and elements, and reads when the loop does.
func TestItems(t *testing.T) {
	r := codec.Read(append(putWords([]uint32{5, 6, 7}), 9))
	items := codec.Items(r, 3, (*codec.Reader).Word)
	if r.Left() != 14 {
		t.Errorf("Left %d before the loop", r.Left())
	}
	var got []uint32
	for i, x := range items {
		if i != len(got) || r.Left() != 13-4*(i+1) {
			t.Errorf("index %d, Left %d", i, r.Left())
		}
		got = append(got, x)
	}
	if !slices.Equal(got, []uint32{5, 6, 7}) || r.Left() != 1 || r.Err() != api.OK {
		t.Errorf("Items yields %d, Left %d, Err %d", got, r.Left(), r.Err())
	}
}

// P1.3: a loop that is left early leaves the rest; another one over the same iterator begins with a Var there.
func TestItemsLeftEarly(t *testing.T) {
	r := codec.Read([]byte{3, 10, 11, 2, 20, 21, 99})
	items := codec.Items(r, 3, (*codec.Reader).Byte)
	for i, x := range items {
		if x != byte(10+i) {
			t.Errorf("yields %d, %d", i, x)
		}
		if i == 1 {
			break
		}
	}
	if r.Left() != 4 || r.Err() != api.OK {
		t.Fatalf("Left %d, Err %d", r.Left(), r.Err())
	}
	var got []byte
	for i, x := range items {
		got = append(got, byte(i), x)
	}
	if !bytes.Equal(got, []byte{0, 20, 1, 21}) || r.Left() != 1 || r.Err() != api.OK {
		t.Errorf("the second loop yields %d, Left %d, Err %d", got, r.Left(), r.Err())
	}
}

// P1.3: a loop whose body makes the reader fail ends there.
func TestItemsFailedByLoop(t *testing.T) {
	r := codec.Read([]byte{3, 10, 11, 12})
	calls, yielded := 0, 0
	for range codec.Items(r, 3, func(r *codec.Reader) byte { calls++; return r.Byte() }) {
		yielded++
		r.Fail(api.ErrArg)
	}
	if calls != 1 || yielded != 1 {
		t.Errorf("%d calls, %d yielded", calls, yielded)
	}
	failed(t, "Items", r, 2, api.ErrArg)
}
