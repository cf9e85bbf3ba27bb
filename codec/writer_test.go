package codec_test

import (
	"bytes"
	"math"
	"testing"

	"dockyard/codec"
)

func written(write func(w *codec.Writer)) []byte {
	w := codec.New()
	write(w)
	return w.Bytes()
}

// fill overwrites b and the capacity behind its end, as a caller may do with what it was given.
func fill(b []byte) {
	b = b[:cap(b)]
	for i := range b {
		b[i] = 0xee
	}
}

// P1.1: an empty writer, and the encodings of the table.
func TestWriterEncodings(t *testing.T) {
	long := bytes.Repeat([]byte{7}, 253)
	for _, c := range []struct {
		name  string
		write func(w *codec.Writer)
		want  []byte
	}{
		{"nothing", func(w *codec.Writer) {}, nil},
		{"Byte(0)", func(w *codec.Writer) { w.Byte(0) }, []byte{0}},
		{"Byte(255)", func(w *codec.Writer) { w.Byte(255) }, []byte{255}},
		{"Word(0)", func(w *codec.Writer) { w.Word(0) }, []byte{0, 0, 0, 0}},
		{"Word(258)", func(w *codec.Writer) { w.Word(258) }, []byte{0, 0, 1, 2}},
		{"Word of four bytes", func(w *codec.Writer) { w.Word(0x01020304) }, []byte{1, 2, 3, 4}},
		{"the greatest Word", func(w *codec.Writer) { w.Word(math.MaxUint32) }, []byte{255, 255, 255, 255}},
		{"Long(258)", func(w *codec.Writer) { w.Long(258) }, []byte{0, 0, 0, 0, 0, 0, 1, 2}},
		{"Long of eight bytes", func(w *codec.Writer) { w.Long(0x0102030405060708) }, []byte{1, 2, 3, 4, 5, 6, 7, 8}},
		{"the greatest Long", func(w *codec.Writer) { w.Long(math.MaxUint64) }, bytes.Repeat([]byte{255}, 8)},
		{"Raw(nil)", func(w *codec.Writer) { w.Raw(nil) }, nil},
		{"Raw", func(w *codec.Writer) { w.Raw([]byte{9, 0, 9}) }, []byte{9, 0, 9}},
		{"Text(nil)", func(w *codec.Writer) { w.Text(nil) }, []byte{0}},
		{"Text(ab)", func(w *codec.Writer) { w.Text([]byte("ab")) }, []byte{2, 'a', 'b'}},
		{"Text of 252 bytes", func(w *codec.Writer) { w.Text(long[:252]) }, append([]byte{252}, long[:252]...)},
		{"Text of 253 bytes", func(w *codec.Writer) { w.Text(long) }, append([]byte{253, 0, 253}, long...)},
		{"one after the other", func(w *codec.Writer) { w.Byte(1); w.Text([]byte{2}); w.Raw([]byte{3}); w.Var(300) }, []byte{1, 1, 2, 3, 253, 1, 44}},
	} {
		w := codec.New()
		c.write(w)
		if !bytes.Equal(w.Bytes(), c.want) || w.Len() != len(c.want) {
			t.Errorf("%s: % x, Len %d; want % x", c.name, w.Bytes(), w.Len(), c.want)
		}
	}
}

// varCases holds the edges of each size of a Var.
var varCases = []struct {
	n    uint64
	want []byte
}{
	{0, []byte{0}},
	{1, []byte{1}},
	{252, []byte{252}},
	{253, []byte{253, 0, 253}},
	{255, []byte{253, 0, 255}},
	{256, []byte{253, 1, 0}},
	{65535, []byte{253, 255, 255}},
	{65536, []byte{254, 0, 1, 0, 0}},
	{1<<32 - 1, []byte{254, 255, 255, 255, 255}},
	{1 << 32, []byte{255, 0, 0, 0, 1, 0, 0, 0, 0}},
	{0x0102030405060708, []byte{255, 1, 2, 3, 4, 5, 6, 7, 8}},
	{math.MaxUint64, []byte{255, 255, 255, 255, 255, 255, 255, 255, 255}},
}

// P1.1: Var takes the shortest form.
func TestWriterVar(t *testing.T) {
	for _, c := range varCases {
		if b := written(func(w *codec.Writer) { w.Var(c.n) }); !bytes.Equal(b, c.want) {
			t.Errorf("Var(%d) = % x; want % x", c.n, b, c.want)
		}
	}
}

// P1.1 with R5: a writer shares no memory with its callers.
func TestWriterMemory(t *testing.T) {
	w := codec.New()
	given := append(make([]byte, 0, 16), 1, 2)
	w.Raw(given)
	w.Text(given)
	if behind := given[:16]; !bytes.Equal(behind, append([]byte{1, 2}, make([]byte, 14)...)) {
		t.Errorf("the argument was changed: % x", behind)
	}
	fill(given)
	first := w.Bytes()
	fill(first)
	second := w.Bytes()
	if want := []byte{1, 2, 2, 1, 2}; !bytes.Equal(second, want) {
		t.Errorf("Bytes = % x; want % x", second, want)
	}
	w.Byte(9)
	if want := []byte{1, 2, 2, 1, 2, 9}; !bytes.Equal(w.Bytes(), want) || len(second) != 5 {
		t.Errorf("Bytes = % x; want % x", w.Bytes(), want)
	}
}

// P1.1 with R6: writers know nothing of each other.
func TestWritersApart(t *testing.T) {
	a, b := codec.New(), codec.New()
	a.Byte(1)
	b.Byte(2)
	if !bytes.Equal(a.Bytes(), []byte{1}) || !bytes.Equal(b.Bytes(), []byte{2}) || a.Len() != 1 {
		t.Errorf("% x, % x", a.Bytes(), b.Bytes())
	}
}
