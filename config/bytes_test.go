package config_test

import (
	"bytes"
	"math/rand/v2"
	"slices"
	"testing"

	"dockyard/api"
	"dockyard/config"
)

// P14.4: each valid configuration has the bytes that the document says, and comes back from them; these are all the bytes that are read.
func TestEncodings(t *testing.T) {
	seen := map[string]bool{}
	for _, x := range castings() {
		c := x.config()
		b := encoded(t, c)
		if !bytes.Equal(b, layout(c)) {
			t.Fatalf("Encode of %v answers % x, want % x", c, b, layout(c))
		}
		if got, e := config.Decode(b); e != api.OK || !same(got, c) {
			t.Fatalf("Decode of % x answers %v, %d", b, got, e)
		}
		seen[string(b)] = true
	}
	if len(seen) != 6305 {
		t.Errorf("there are %d encodings of 6305 configurations", len(seen))
	}
	// All short bytes, of those that could count.
	left := [][]byte{nil}
	for at := 0; at < len(left); at++ {
		b := left[at]
		if _, e := config.Decode(b); (e == api.OK) != seen[string(b)] {
			t.Fatalf("Decode of % x answers %d", b, e)
		}
		if !seen[string(b)] {
			none(t, b)
		}
		if len(b) == 5 {
			continue
		}
		for _, next := range []byte{0, 1, 2, 3, 4, 5, 6, 7, 8, 9, 253, 255} {
			left = append(left, append(slices.Clone(b), next))
		}
	}
}

// P14.4: the bytes, written out.
func TestBytes(t *testing.T) {
	for want, c := range map[string]api.Config{
		"\x01\x00\x00": of(0),
		"\x01\x07\x00": of(7),
		"\x08\x00\x01\x02\x03\x04\x05\x06\x07\x00": of(nodes(0, 7)...),
		"\x01\x03\x07\x00\x01\x02\x04\x05\x06\x07": with([]int{3}, 0, 1, 2, 4, 5, 6, 7),
		"\x03\x00\x02\x07\x02\x01\x06":             with([]int{0, 2, 7}, 1, 6),
		"\x02\x04\x05\x00":                         {Voters: []int{4, 5}, Learners: []int{}},
	} {
		if b := encoded(t, c); string(b) != want {
			t.Errorf("Encode of %v answers % x, want % x", c, b, want)
		}
		if got, e := config.Decode([]byte(want)); e != api.OK || !same(got, c) {
			t.Errorf("Decode of % x answers %v, %d, want %v", want, got, e, c)
		}
	}
}

// P14.4: what Check refuses is not written, and what would be its bytes is not read.
func TestNotWritten(t *testing.T) {
	for _, c := range wrong() {
		if b, e := config.Encode(c); e != api.ErrConfigForm || len(b) != 0 {
			t.Errorf("Encode of %v answers % x, %d, want nothing, ErrConfigForm", c, b, e)
		}
		// A number that is no byte has none that would be its: its lowest one may be that of a node.
		if !slices.ContainsFunc(config.All(c), func(n int) bool { return n < 0 || n > 255 }) {
			none(t, layout(c))
		}
	}
	for _, s := range []string{
		"\x00\x00", "\x00\x01\x00", "\x00\x02\x00\x01", "\x02\x01\x00\x00", "\x02\x01\x01\x00", "\x01\x08\x00", "\x01\xff\x00", "\x02\x00\x08\x00",
		"\x01\x00\x01\x00", "\x01\x00\x02\x02\x01", "\x01\x00\x02\x01\x01", "\x01\x00\x01\x08", "\x01\x00\x01\xff", "\x02\x00\x03\x02\x02\x03",
		"\x09\x00\x01\x02\x03\x04\x05\x06\x07\x08\x00", "\x09\x00\x01\x02\x03\x04\x05\x06\x07\x07\x00", "\x01\x00\x08\x01\x02\x03\x04\x05\x06\x07\x08",
		"\x08\x07\x06\x05\x04\x03\x02\x01\x00\x00",
	} {
		none(t, []byte(s))
	}
}

// P14.4: no bytes, bytes that are cut short at any place, and one byte more.
func TestCut(t *testing.T) {
	none(t, nil)
	none(t, []byte{})
	for _, x := range castings() {
		b := encoded(t, x.config())
		for n := range b {
			none(t, b[:n])
		}
		for _, more := range []byte{0, 1, 7, 255} {
			none(t, append(slices.Clone(b), more))
		}
		none(t, append(slices.Clone(b), b...))
	}
	b := encoded(t, with([]int{0, 2}, 1))
	for more := range 256 {
		none(t, append(slices.Clone(b), byte(more)))
	}
}

// P14.4: a number of elements that is greater than what follows, or less; and one that is written longer than it must be.
func TestWrongNumbers(t *testing.T) {
	for _, c := range []api.Config{of(0), of(nodes(0, 7)...), with([]int{0, 2}, 1), with([]int{3}, 0, 1, 2, 4, 5, 6, 7)} {
		b := encoded(t, c)
		behind := 1 + len(c.Voters)
		for n := range 256 {
			if n != len(c.Voters) {
				none(t, slices.Replace(slices.Clone(b), 0, 1, byte(n)))
			}
			if n != len(c.Learners) {
				none(t, slices.Replace(slices.Clone(b), behind, behind+1, byte(n)))
			}
		}
		none(t, slices.Replace(slices.Clone(b), 0, 1, 253, 0, b[0]))
		none(t, slices.Replace(slices.Clone(b), behind, behind+1, 253, 0, b[behind]))
	}
	// As many follow as the number says, but there are no so many nodes.
	for _, n := range []int{9, 10, 252, 253, 254, 255} {
		none(t, slices.Concat([]byte{byte(n)}, make([]byte, n), []byte{0}))
		none(t, slices.Concat([]byte{1, 0, byte(n)}, make([]byte, n)))
		rising := make([]byte, n)
		for i := range rising {
			rising[i] = byte(i)
		}
		none(t, slices.Concat([]byte{byte(n)}, rising, []byte{0}))
	}
}

// P14.4, R1: what is read of any bytes is written as the same bytes; all else is refused.
func TestAnyBytes(t *testing.T) {
	r, read, all := rand.New(rand.NewPCG(14, 4)), 0, castings()
	for range 100000 {
		b := encoded(t, all[r.IntN(len(all))].config())
		for range 1 + r.IntN(3) {
			at, to := r.IntN(len(b)), byte(r.IntN(9))
			switch r.IntN(4) {
			case 0:
				b = slices.Insert(b, at, to)
			case 1:
				b = slices.Delete(b, at, min(at+1, len(b)-1))
			case 2:
				b[at] ^= 1 << r.IntN(8)
			default:
				b[at] = to
			}
		}
		c, e := config.Decode(b)
		if e != api.OK {
			none(t, b)
			continue
		}
		read++
		if config.Check(c) != api.OK || !bytes.Equal(encoded(t, c), b) || !bytes.Equal(layout(c), b) {
			t.Fatalf("% x is read as %v", b, c)
		}
	}
	if read < 1000 {
		t.Errorf("only %d were read", read)
	}
}

// P14.4, R5: what is given stays as it is, and what is answered is new memory.
func TestBytesMemory(t *testing.T) {
	for _, was := range append(wrong(), with([]int{0, 2, 7}, 1, 5), of(3), of(nodes(0, 7)...)) {
		c := deep(was)
		first, e := config.Encode(c)
		second, _ := config.Encode(c)
		unchanged(t, "Encode", c, was)
		if e != api.OK {
			continue
		}
		for n := range first[:cap(first)] {
			first[:cap(first)][n] = 99
		}
		spoil(c.Voters)
		if !bytes.Equal(second, layout(was)) {
			t.Errorf("the encoding of %v became % x", was, second)
		}

		b := append(slices.Clone(second), 77)[:len(second)]
		separate(t, "Decode", func() api.Config { got, _ := config.Decode(b); return got })
		got, _ := config.Decode(b)
		if !bytes.Equal(b[:len(b)+1], append(slices.Clone(second), 77)) {
			t.Errorf("Decode has changed its argument to % x", b[:len(b)+1])
		}
		clear(b)
		if !same(got, was) {
			t.Errorf("what Decode has answered became %v, and was %v", got, was)
		}
	}
}
