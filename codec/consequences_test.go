package codec_test

import (
	"bytes"
	"math"
	"math/rand/v2"
	"testing"

	"dockyard/api"
	"dockyard/codec"
)

// A call writes one value; its kind and, for Raw, its size say how it is read.
type call struct {
	kind int
	n    uint64
	b    []byte
	l    []uint64
}

const (
	byteCall = iota
	wordCall
	longCall
	varCall
	rawCall
	textCall
	listCall
	callKinds
)

func (c call) write(w *codec.Writer) {
	switch c.kind {
	case byteCall:
		w.Byte(byte(c.n))
	case wordCall:
		w.Word(uint32(c.n))
	case longCall:
		w.Long(c.n)
	case varCall:
		w.Var(c.n)
	case rawCall:
		w.Raw(c.b)
	case textCall:
		w.Text(c.b)
	case listCall:
		codec.Put(w, c.l, (*codec.Writer).Var)
	}
}

// read answers the value that the corresponding reading call finds.
func (c call) read(r *codec.Reader) call {
	got := call{kind: c.kind}
	switch c.kind {
	case byteCall:
		got.n = uint64(r.Byte())
	case wordCall:
		got.n = uint64(r.Word())
	case longCall:
		got.n = r.Long()
	case varCall:
		got.n = r.Var(math.MaxUint64)
	case rawCall:
		got.b = r.Raw(len(c.b))
	case textCall:
		got.b = r.Text(math.MaxInt)
	case listCall:
		got.l = codec.List(r, math.MaxInt, func(r *codec.Reader) uint64 { return r.Var(math.MaxUint64) })
	}
	return got
}

func (c call) equal(d call) bool {
	if len(c.l) != len(d.l) {
		return false
	}
	for i := range c.l {
		if c.l[i] != d.l[i] {
			return false
		}
	}
	return c.kind == d.kind && c.n == d.n && bytes.Equal(c.b, d.b)
}

func equalCalls(a, b []call) bool {
	for i := range a {
		if !a[i].equal(b[i]) {
			return false
		}
	}
	return len(a) == len(b)
}

func writtenBy(l []call) []byte {
	return written(func(w *codec.Writer) {
		for _, c := range l {
			c.write(w)
		}
	})
}

// anyNumber is of any size, and often at an edge of one.
func anyNumber(source *rand.Rand) uint64 {
	n := uint64(1) << source.IntN(64)
	switch source.IntN(3) {
	case 0:
		return n - 1
	case 1:
		return n
	}
	return source.Uint64() >> source.IntN(64)
}

func anyBytes(source *rand.Rand, size int) []byte {
	b := make([]byte, size)
	for i := range b {
		b[i] = byte(source.IntN(256))
	}
	return b
}

func anyCall(source *rand.Rand) call {
	c := call{kind: source.IntN(callKinds)}
	switch c.kind {
	case byteCall:
		c.n = uint64(source.IntN(256))
	case wordCall:
		c.n = uint64(source.Uint32())
	case longCall, varCall:
		c.n = anyNumber(source)
	case rawCall, textCall:
		c.b = anyBytes(source, source.IntN(6))
		if source.IntN(20) == 0 {
			c.b = anyBytes(source, 250+source.IntN(8))
		}
	case listCall:
		for range source.IntN(4) {
			c.l = append(c.l, anyNumber(source))
		}
	}
	return c
}

func anyCalls(source *rand.Rand) []call {
	l := make([]call, source.IntN(7))
	for i := range l {
		l[i] = anyCall(source)
	}
	return l
}

// P1.6: what was written is read back, and nothing is left.
func TestReadBack(t *testing.T) {
	source := rand.New(rand.NewPCG(1, 6))
	for range 3000 {
		l := anyCalls(source)
		b := writtenBy(l)
		r := codec.Read(b)
		for _, c := range l {
			if got := c.read(r); !got.equal(c) {
				t.Fatalf("% x: read %v; written %v", b, got, c)
			}
		}
		if r.End() != api.OK || r.Left() != 0 {
			t.Fatalf("% x: End %d, Left %d", b, r.End(), r.Left())
		}
	}
}

// P1.6: a proper prefix of what was written is too short. P1.7: Left never increases, and does not change once the reader has failed.
func TestReadPrefix(t *testing.T) {
	source := rand.New(rand.NewPCG(1, 7))
	for range 1000 {
		l := anyCalls(source)
		b := writtenBy(l)
		for n := range b {
			r := codec.Read(b[:n])
			for _, c := range l {
				before, sound := r.Left(), r.Err() == api.OK
				c.read(r)
				if r.Left() > before || !sound && r.Left() != before {
					t.Fatalf("% x: Left became %d from %d", b[:n], r.Left(), before)
				}
			}
			if r.Err() != api.ErrCodecShort || r.End() != api.ErrCodecShort {
				t.Fatalf("% x, a prefix of % x: Err %d", b[:n], b, r.Err())
			}
		}
	}
}

// smallCall is a call of that kind with one of few values, so that two of them are often equal.
func smallCall(source *rand.Rand, kind int) call {
	c := call{kind: kind}
	switch kind {
	case rawCall: // a reader must know its size, which is the same in both sequences therefore
		c.b = anyBytes(source, 2)
		c.b[0], c.b[1] = c.b[0]%2, c.b[1]%3
	case textCall:
		c.b = make([]byte, source.IntN(3))
		for i := range c.b {
			c.b[i] = byte(source.IntN(2))
		}
	case listCall:
		for range source.IntN(3) {
			c.l = append(c.l, uint64(source.IntN(2)))
		}
	default:
		c.n = uint64(source.IntN(3))
		if kind == varCall && source.IntN(2) == 0 {
			c.n = 252 + c.n
		}
	}
	return c
}

// P1.7: sequences of the same kinds of calls write the same bytes only if they write the same values.
func TestSameBytesSameValues(t *testing.T) {
	source := rand.New(rand.NewPCG(1, 8))
	same := 0
	for range 200000 {
		var a, b []call
		for range 1 + source.IntN(3) {
			kind := source.IntN(callKinds)
			a = append(a, smallCall(source, kind))
			b = append(b, smallCall(source, kind))
		}
		equal := bytes.Equal(writtenBy(a), writtenBy(b))
		if equal != equalCalls(a, b) {
			t.Fatalf("%v and %v write % x and % x", a, b, writtenBy(a), writtenBy(b))
		}
		if equal {
			same++
		}
	}
	if same == 0 {
		t.Error("no two sequences were the same")
	}
}

// P1.7: no other bytes are read as a Var than those that writing the number yields.
func TestVarCanonical(t *testing.T) {
	check := func(b []byte) {
		r := codec.Read(b)
		n := r.Var(math.MaxUint64)
		if r.Err() != api.OK {
			return
		}
		used := b[:len(b)-r.Left()]
		if again := written(func(w *codec.Writer) { w.Var(n) }); !bytes.Equal(again, used) {
			t.Fatalf("% x is read as %d, which is written as % x", used, n, again)
		}
	}
	for n := range 1 << 16 {
		check([]byte{253, byte(n >> 8), byte(n)})
		check([]byte{254, 0, 0, byte(n >> 8), byte(n)})
		check([]byte{254, byte(n >> 8), byte(n), 0, 0})
		check([]byte{255, 0, 0, 0, 0, byte(n >> 8), byte(n), 0, 0})
		check([]byte{255, byte(n >> 8), byte(n), 0, 0, 0, 0, 0, 0})
	}
	for first := range 256 {
		check([]byte{byte(first), 0, 0, 0, 0, 0, 0, 0, 0})
		check([]byte{byte(first), 1, 1, 1, 1, 1, 1, 1, 1})
	}
}

// P1.7 with R1: whatever bytes are read by whatever calls, a reader ends, never goes back, and stays as it is once it has failed.
func TestReadAnything(t *testing.T) {
	source := rand.New(rand.NewPCG(1, 9))
	for range 20000 {
		r := codec.Read(anyBytes(source, source.IntN(24)))
		for range 12 {
			left, e := r.Left(), r.Err()
			anyCall(source).read(r)
			if r.Left() > left || e != api.OK && (r.Left() != left || r.Err() != e) {
				t.Fatalf("Left %d, Err %d; before: %d, %d", r.Left(), r.Err(), left, e)
			}
		}
	}
}
