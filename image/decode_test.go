package image_test

import (
	"bytes"
	"encoding/binary"
	"fmt"
	"slices"
	"testing"

	"dockyard/api"
)

// P13.2: bytes that are cut short at any place, and one byte more.
func TestCut(t *testing.T) {
	some := largest()
	some.Graphs = some.Graphs[:1]
	for what, i := range map[string]api.Image{
		"something of everything": right(),
		"a new queue":             {NextGraph: 1, NextToken: 1},
		"a full graph":            some,
	} {
		b := encoded(t, i)
		for n := 0; n < len(b); n += 1 + len(b)/3000 {
			none(t, fmt.Sprint(what, ", cut at ", n), b[:n])
			none(t, fmt.Sprint(what, ", without the byte ", n), slices.Delete(bytes.Clone(b), n, n+1))
		}
		none(t, what+", without the last byte", b[:len(b)-1])
		for n := range 256 {
			none(t, fmt.Sprint(what, ", and ", n), append(bytes.Clone(b), byte(n)))
		}
		none(t, what+", twice", append(bytes.Clone(b), b...))
		none(t, what+", behind a byte", append([]byte{0}, b...))
	}
}

// P13.2: at each place where a Var stands, one that is longer than it must be.
func TestLongVars(t *testing.T) {
	for _, i := range []api.Image{right(), withAnswer(longest()), {NextGraph: 1, NextToken: 1, Built: keys(api.MaxBuilt)}} {
		x := layoutOf(i)
		for _, at := range x.vars {
			n, size := uint64(x.b[at]), 1
			if n == 253 {
				n, size = uint64(binary.BigEndian.Uint16(x.b[at+1:])), 3
			}
			two, four, eight := []byte{253}, []byte{254}, []byte{255}
			two = binary.BigEndian.AppendUint16(two, uint16(n))
			four = binary.BigEndian.AppendUint32(four, uint32(n))
			eight = binary.BigEndian.AppendUint64(eight, n)
			for _, longer := range [][]byte{two, four, eight} {
				if len(longer) > size {
					none(t, fmt.Sprintf("%d as % x at %d", n, longer, at), slices.Replace(bytes.Clone(x.b), at, at+size, longer...))
				}
			}
		}
	}
}

// P13.2: at each place where a Var stands, a number that is greater than what follows, or beyond its limit.
func TestGreatVars(t *testing.T) {
	x := layoutOf(right())
	for _, at := range x.vars {
		for _, greater := range [][]byte{
			{x.b[at] + 1}, {x.b[at] + 2}, {200}, {252},
			{253, 0, 253}, {253, 255, 255}, {254, 0, 1, 0, 0}, {254, 127, 255, 255, 255}, {254, 255, 255, 255, 255},
			{255, 0, 0, 0, 1, 0, 0, 0, 0}, {255, 127, 255, 255, 255, 255, 255, 255, 255},
			{255, 128, 0, 0, 0, 0, 0, 0, 0}, {255, 255, 255, 255, 255, 255, 255, 255, 255},
		} {
			none(t, fmt.Sprintf("% x at %d", greater, at), slices.Replace(bytes.Clone(x.b), at, at+1, greater...))
			none(t, fmt.Sprintf("% x at %d, and no more", greater, at), append(bytes.Clone(x.b[:at]), greater...))
		}
		none(t, fmt.Sprint("no more than 255 at ", at), append(bytes.Clone(x.b[:at]), 255))
	}
}

// P13.2: a number that is less than what follows.
func TestSmallVars(t *testing.T) {
	x := layoutOf(right())
	for _, at := range x.vars {
		if x.b[at] > 0 {
			less := bytes.Clone(x.b)
			less[at]--
			none(t, fmt.Sprint("one less at ", at), less)
		}
	}
}

// P13.2: bytes that have little to do with images.
func TestOtherBytes(t *testing.T) {
	for n := range 256 {
		for _, size := range []int{1, 24, 26, 27, 28, 1000} {
			none(t, "the same bytes", bytes.Repeat([]byte{byte(n)}, size))
		}
	}
	none(t, "many bytes", make([]byte, 1<<20))
	front := long("00") + long("01") + long("01")
	for what, s := range map[string]string{
		"numbers alone":            front,
		"no graphs":                front + "00",
		"no keys":                  front + "00 00",
		"a session without a Seq":  front + "01" + long("05"),
		"a session that is cut":    front + "01" + long("05") + long("01") + "00",
		"a graph without targets":  front + "00 01" + long("00") + "00 00",
		"a graph without a state":  front + "00 01" + long("00") + "01 01 61 00 00 00",
		"the number of states too": long("00") + long("02") + long("01") + "00 01" + long("01") + "01 01 61 00 00 01 01" + long("00") + long("00") + "00",
		"a key that is cut":        front + "00 00 01 00",
	} {
		none(t, what, bytesOf(t, s))
	}
}

// P13.2: the states are read by the number of the targets, and each kind of them is taken.
func TestStates(t *testing.T) {
	for kind := range 256 {
		i := api.Image{NextGraph: 2, NextToken: 1, Graphs: []api.GraphRow{{Id: 1, Graph: single(), States: states(kind)}}}
		switch b := layoutOf(i).b; kind {
		case api.Ready, api.Done, api.Failed, api.Skipped, api.Cancelled:
			is(t, "a state", i, b)
		default: // what waits for nothing; what is leased without a token; what is none
			refused(t, fmt.Sprint("the state ", kind), i)
			none(t, fmt.Sprint("the state ", kind), b)
		}
	}
}

// P13.2, R5: the bytes are neither changed nor kept, and each image is the caller's.
func TestDecodeMemory(t *testing.T) {
	want := layoutOf(right()).b
	given := append(make([]byte, 0, 2*len(want)), want...)
	first, second, third := decoded(t, given), decoded(t, given), decoded(t, given)
	if whole := given[:cap(given)]; !bytes.Equal(whole[:len(want)], want) || !bytes.Equal(whole[len(want):], make([]byte, len(whole)-len(want))) {
		t.Errorf("Decode has changed the bytes to % x", whole)
	}
	fill(given, 0xee)
	if !same(first, right()) {
		t.Error("the image has become", first)
	}
	spoil(second)
	if !same(first, right()) || !same(third, right()) || !same(decoded(t, want), right()) {
		t.Error("the images have become", first, third)
	}
}

// P13.2, R5: no two lists of an image share memory.
func TestListsApart(t *testing.T) {
	b := encoded(t, right())
	fresh := right()
	for n := range fresh.Graphs {
		i := decoded(t, b)
		fill(i.Graphs[n].States, leased(99, 99))
		i.Graphs[n].States = fresh.Graphs[n].States
		if !same(i, fresh) {
			t.Error("the states of a graph are shared", n, i)
		}
		i = decoded(t, b)
		spoilGraph(i.Graphs[n].Graph)
		i.Graphs[n].Graph = fresh.Graphs[n].Graph
		if !same(i, fresh) {
			t.Error("the targets of a graph are shared", n, i)
		}
		for m := range fresh.Graphs[n].Graph.Targets {
			i = decoded(t, b)
			fill(i.Graphs[n].Graph.Targets[m].Needs, "spoilt")
			i.Graphs[n].Graph.Targets[m].Needs = fresh.Graphs[n].Graph.Targets[m].Needs
			if !same(i, fresh) {
				t.Error("the needs of a target are shared", n, m, i)
			}
		}
	}
}
