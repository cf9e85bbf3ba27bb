package codec_test

import (
	"bytes"
	"math"
	"testing"

	"dockyard/api"
	"dockyard/codec"
)

// reads are all the ways to read; each reports whether its result was zero.
var reads = []struct {
	name string
	zero func(r *codec.Reader) bool
}{
	{"Byte", func(r *codec.Reader) bool { return r.Byte() == 0 }},
	{"Word", func(r *codec.Reader) bool { return r.Word() == 0 }},
	{"Long", func(r *codec.Reader) bool { return r.Long() == 0 }},
	{"Var", func(r *codec.Reader) bool { return r.Var(math.MaxUint64) == 0 }},
	{"Raw", func(r *codec.Reader) bool { return len(r.Raw(1)) == 0 }},
	{"Raw(0)", func(r *codec.Reader) bool { return len(r.Raw(0)) == 0 }},
	{"Raw(-1)", func(r *codec.Reader) bool { return len(r.Raw(-1)) == 0 }},
	{"Text", func(r *codec.Reader) bool { return len(r.Text(100)) == 0 }},
	{"Text(-1)", func(r *codec.Reader) bool { return len(r.Text(-1)) == 0 }},
	{"List", func(r *codec.Reader) bool { return len(codec.List(r, 100, (*codec.Reader).Byte)) == 0 }},
	{"Items", func(r *codec.Reader) bool {
		for range codec.Items(r, 100, (*codec.Reader).Byte) {
			return false
		}
		return true
	}},
}

// failed checks that r failed with e, has left bytes still, and stays so whatever is read.
func failed(t *testing.T, name string, r *codec.Reader, left int, e api.Errno) {
	t.Helper()
	if r.Err() != e || r.Left() != left || r.End() != e {
		t.Errorf("%s: Err %d, Left %d, End %d; want %d, %d, %d", name, r.Err(), r.Left(), r.End(), e, left, e)
	}
	for _, c := range reads {
		if !c.zero(r) || r.Err() != e || r.Left() != left {
			t.Errorf("%s, then %s: Err %d, Left %d; want %d, %d and zero", name, c.name, r.Err(), r.Left(), e, left)
		}
	}
}

// P1.2: numbers of a fixed size.
func TestReadNumbers(t *testing.T) {
	r := codec.Read([]byte{255, 1, 2, 3, 4, 5, 6, 7, 8, 9, 10, 11, 12, 13})
	if x := r.Byte(); x != 255 || r.Left() != 13 {
		t.Errorf("Byte = %d, Left %d", x, r.Left())
	}
	if x := r.Word(); x != 0x01020304 || r.Left() != 9 {
		t.Errorf("Word = %x, Left %d", x, r.Left())
	}
	if x := r.Long(); x != 0x05060708090a0b0c || r.Left() != 1 {
		t.Errorf("Long = %x, Left %d", x, r.Left())
	}
	if x := r.Byte(); x != 13 || r.End() != api.OK {
		t.Errorf("Byte = %d, End %d", x, r.End())
	}
}

// P1.2: numbers of a fixed size for which bytes are missing.
func TestReadNumbersShort(t *testing.T) {
	for _, c := range []struct {
		name string
		zero func(r *codec.Reader) bool
		size int
	}{
		{"Byte", reads[0].zero, 1},
		{"Word", reads[1].zero, 4},
		{"Long", reads[2].zero, 8},
	} {
		for n := range c.size {
			r := codec.Read(bytes.Repeat([]byte{5}, n))
			if !c.zero(r) {
				t.Errorf("%s of %d bytes is not zero", c.name, n)
			}
			failed(t, c.name, r, n, api.ErrCodecShort)
		}
	}
}

// P1.2: Var reads what the table says, as long as it is not greater than allowed.
func TestReadVar(t *testing.T) {
	for _, c := range varCases {
		r := codec.Read(append(bytes.Clone(c.want), 1))
		if n := r.Var(c.n); n != c.n || r.Left() != 1 || r.Err() != api.OK {
			t.Errorf("Var of % x = %d, Left %d, Err %d", c.want, n, r.Left(), r.Err())
		}
		if c.n == 0 {
			continue
		}
		r = codec.Read(c.want)
		if n := r.Var(c.n - 1); n != 0 {
			t.Errorf("Var of % x = %d, though it is too great", c.want, n)
		}
		failed(t, "Var too great", r, len(c.want), api.ErrCodecLong)
	}
}

// P1.2: Var refuses what is short, then what has a shorter form, then what is too great.
func TestReadVarErrors(t *testing.T) {
	for _, c := range []struct {
		b    []byte
		most uint64
		want api.Errno
	}{
		{nil, 9, api.ErrCodecShort},
		{[]byte{253}, 9, api.ErrCodecShort},
		{[]byte{253, 1}, 9, api.ErrCodecShort},
		{[]byte{254, 0, 0, 0}, 0, api.ErrCodecShort},
		{[]byte{255, 0, 0, 0, 0, 0, 0, 0}, 0, api.ErrCodecShort},
		{[]byte{253, 0, 0}, 9, api.ErrCodecForm},
		{[]byte{253, 0, 252}, 1000, api.ErrCodecForm},
		{[]byte{253, 0, 252}, 251, api.ErrCodecForm},
		{[]byte{254, 0, 0, 0, 5}, 0, api.ErrCodecForm},
		{[]byte{254, 0, 0, 255, 255}, math.MaxUint64, api.ErrCodecForm},
		{[]byte{255, 0, 0, 0, 0, 0, 0, 0, 253}, 0, api.ErrCodecForm},
		{[]byte{255, 0, 0, 0, 0, 255, 255, 255, 255}, math.MaxUint64, api.ErrCodecForm},
		{[]byte{5}, 4, api.ErrCodecLong},
		{[]byte{252}, 0, api.ErrCodecLong},
		{[]byte{253, 0, 253}, 252, api.ErrCodecLong},
		{[]byte{255, 255, 255, 255, 255, 255, 255, 255, 255}, math.MaxUint64 - 1, api.ErrCodecLong},
	} {
		r := codec.Read(c.b)
		if n := r.Var(c.most); n != 0 {
			t.Errorf("Var(%d) of % x = %d", c.most, c.b, n)
		}
		failed(t, "Var", r, len(c.b), c.want)
	}
}

// P1.2: Raw.
func TestReadRaw(t *testing.T) {
	r := codec.Read([]byte{1, 2, 3})
	if b := r.Raw(2); !bytes.Equal(b, []byte{1, 2}) || r.Left() != 1 {
		t.Errorf("Raw(2) = % x, Left %d", b, r.Left())
	}
	if b := r.Raw(0); len(b) != 0 || r.Left() != 1 || r.Err() != api.OK {
		t.Errorf("Raw(0) = % x, Left %d", b, r.Left())
	}
	if b := r.Raw(1); !bytes.Equal(b, []byte{3}) || r.End() != api.OK {
		t.Errorf("Raw(1) = % x, End %d", b, r.End())
	}
	if b := r.Raw(0); len(b) != 0 || r.End() != api.OK {
		t.Errorf("Raw(0) at the end = % x, End %d", b, r.End())
	}
	for _, c := range []struct {
		n    int
		want api.Errno
	}{
		{4, api.ErrCodecShort},
		{math.MaxInt, api.ErrCodecShort},
		{-1, api.ErrCodecLong},
		{math.MinInt, api.ErrCodecLong},
	} {
		r := codec.Read([]byte{1, 2, 3})
		if b := r.Raw(c.n); len(b) != 0 {
			t.Errorf("Raw(%d) = % x", c.n, b)
		}
		failed(t, "Raw", r, 3, c.want)
	}
}

// P1.2: Text, by the chapter's examples and at the edges of most.
func TestReadText(t *testing.T) {
	r := codec.Read([]byte{2, 'a', 'b', 'c'})
	if b := r.Text(2); string(b) != "ab" || r.Left() != 1 || r.End() != api.ErrCodecMore {
		t.Errorf("Text(2) = %q, Left %d, End %d", b, r.Left(), r.End())
	}
	if x := r.Byte(); x != 'c' || r.End() != api.OK {
		t.Errorf("Byte = %d, End %d", x, r.End())
	}
	r = codec.Read([]byte{0, 1, 7})
	if b := r.Text(0); len(b) != 0 || r.Left() != 2 || r.Err() != api.OK {
		t.Errorf("Text(0) = % x, Left %d, Err %d", b, r.Left(), r.Err())
	}
	if b := r.Text(math.MaxInt); !bytes.Equal(b, []byte{7}) || r.End() != api.OK {
		t.Errorf("Text of the greatest most = % x, End %d", b, r.End())
	}
	long := bytes.Repeat([]byte{3}, 70000)
	r = codec.Read(written(func(w *codec.Writer) { w.Text(long) }))
	if b := r.Text(70000); !bytes.Equal(b, long) || r.End() != api.OK {
		t.Errorf("a long Text has %d bytes, End %d", len(b), r.End())
	}
}

// P1.2: Text refuses as Var does, and consumes not even the length.
func TestReadTextErrors(t *testing.T) {
	for _, c := range []struct {
		b    []byte
		most int
		want api.Errno
	}{
		{nil, 2, api.ErrCodecShort},
		{nil, -1, api.ErrCodecShort},
		{[]byte{2, 'a'}, 2, api.ErrCodecShort},
		{[]byte{1}, 1, api.ErrCodecShort},
		{[]byte{253, 1}, -1, api.ErrCodecShort},
		{[]byte{255, 127, 255, 255, 255, 255, 255, 255, 255, 1}, math.MaxInt, api.ErrCodecShort},
		{[]byte{253, 0, 1, 'a'}, 5, api.ErrCodecForm},
		{[]byte{253, 0, 1, 'a'}, -1, api.ErrCodecForm},
		{[]byte{3, 'a'}, 2, api.ErrCodecLong},
		{[]byte{1, 'a'}, 0, api.ErrCodecLong},
		{[]byte{0}, -1, api.ErrCodecLong},
		{[]byte{1, 'a'}, -1, api.ErrCodecLong},
		{[]byte{1, 'a'}, math.MinInt, api.ErrCodecLong},
		{[]byte{255, 255, 255, 255, 255, 255, 255, 255, 255}, -1, api.ErrCodecLong},
		{[]byte{255, 128, 0, 0, 0, 0, 0, 0, 0}, math.MaxInt, api.ErrCodecLong},
	} {
		r := codec.Read(c.b)
		if b := r.Text(c.most); len(b) != 0 {
			t.Errorf("Text(%d) of % x = % x", c.most, c.b, b)
		}
		failed(t, "Text", r, len(c.b), c.want)
	}
}

// P1.2: Fail, Err and End.
func TestReadFail(t *testing.T) {
	r := codec.Read([]byte{1, 2})
	r.Fail(api.OK)
	if r.Err() != api.OK || r.Byte() != 1 {
		t.Errorf("Fail(OK) made it fail with %d", r.Err())
	}
	if r.End() != api.ErrCodecMore || r.End() != api.ErrCodecMore || r.Err() != api.OK {
		t.Errorf("End made it fail with %d", r.Err())
	}
	r.Fail(api.ErrArg)
	r.Fail(api.ErrCodecSum)
	r.Fail(api.OK)
	failed(t, "Fail", r, 1, api.ErrArg)

	r = codec.Read(nil)
	if r.Left() != 0 || r.Err() != api.OK || r.End() != api.OK {
		t.Errorf("no bytes: Left %d, Err %d, End %d", r.Left(), r.Err(), r.End())
	}
	r.Fail(api.ErrClusterOp)
	failed(t, "Fail at the end", r, 0, api.ErrClusterOp)
}

// P1.2 with R5: a reader keeps a copy, and its results are the caller's.
func TestReadMemory(t *testing.T) {
	given := append(make([]byte, 0, 32), 1, 2, 2, 'a', 'b', 3, 4)
	r := codec.Read(given)
	fill(given)
	raw := r.Raw(2)
	fill(raw)
	text := r.Text(9)
	if string(text) != "ab" {
		t.Errorf("Text = %q", text)
	}
	fill(text)
	if rest := r.Raw(2); !bytes.Equal(rest, []byte{3, 4}) || r.End() != api.OK {
		t.Errorf("Raw = % x, End %d", rest, r.End())
	}
}
