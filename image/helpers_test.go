package image_test

import (
	"bytes"
	"encoding/binary"
	"encoding/hex"
	"fmt"
	"math"
	"reflect"
	"slices"
	"strings"
	"testing"

	"dockyard/api"
	"dockyard/graph"
	"dockyard/image"
)

const most = math.MaxUint64

// read answers a graph that is told as a text.
func read(s string) api.Graph {
	g, e := graph.Parse(s)
	if e != api.OK {
		panic(fmt.Sprint("no graph: ", s, e))
	}
	return g
}

// Graphs: a single target; "a" which needs "b"; "d" which needs "b" and "c", and these need "a".
func single() api.Graph  { return read("a:\n\tcc a\n") }
func pair() api.Graph    { return read("a: b\n\tcc a\nb:\n") }
func diamond() api.Graph { return read("d: b c\n\tcc d\nb: a\n\tcc b\nc: a\n\tcc c\na:\n\tcc a\n") }

// fullest answers a graph with as much in it as may be; its commands have a number in them.
func fullest(n int) api.Graph {
	var g api.Graph
	var names []string
	for i := range api.MaxTargets {
		command := fmt.Sprint(n, " ", i, " ")
		g.Targets = append(g.Targets, api.Target{
			Name:    fmt.Sprintf("%032d", i),
			Command: command + strings.Repeat("x", api.MaxText-len(command)),
			Needs:   slices.Clone(names[max(0, i-api.MaxNeeds):]),
		})
		names = append(names, g.Targets[i].Name)
	}
	return g
}

func leased(token, until uint64) api.State {
	return api.State{State: api.Leased, Token: token, Until: until}
}

// states answers states that are no leases.
func states(kinds ...int) []api.State {
	var l []api.State
	for _, kind := range kinds {
		l = append(l, api.State{State: kind})
	}
	return l
}

// right answers an image with something of everything in it.
func right() api.Image {
	return api.Image{
		Now: 4, NextGraph: 9, NextToken: 7,
		Sessions: []api.SessionRow{
			{Id: 2},
			{Id: 5, Seq: 3, Answer: api.Answer{Code: 122}},
			{Id: 6, Seq: 1, Answer: api.Answer{Id: 1, Token: 6, Until: 5, Target: "b", Command: "cc b"}},
		},
		Graphs: []api.GraphRow{
			{Id: 1, Graph: pair(), States: []api.State{{}, leased(6, 5)}},
			{Id: 3, Graph: diamond(), States: []api.State{{State: api.Skipped}, leased(2, most), {State: api.Failed}, {State: api.Done}}},
			{Id: 8, Graph: single(), States: states(api.Cancelled)},
		},
		Built: []uint64{5, 0, most},
	}
}

// longest answers an answer with as much in it as may be.
func longest() api.Answer {
	return api.Answer{Code: 255, Id: most, Token: most, Until: most, Target: strings.Repeat("\xff", api.MaxName), Command: strings.Repeat("\x00", api.MaxText)}
}

// largest answers an image with as much in it as may be.
func largest() api.Image {
	i := api.Image{Now: most - 1, NextGraph: most, NextToken: most}
	for n := range uint64(api.MaxSessions) {
		i.Sessions = append(i.Sessions, api.SessionRow{Id: most - api.MaxSessions + n, Seq: most, Answer: longest()})
	}
	for n := range uint64(api.MaxGraphs) {
		row := api.GraphRow{Id: most - api.MaxGraphs + n, Graph: fullest(int(n))}
		for place := range uint64(api.MaxTargets) {
			row.States = append(row.States, leased(most-1-n*api.MaxTargets-place, most))
		}
		i.Graphs = append(i.Graphs, row)
	}
	i.Built = keys(api.MaxBuilt)
	return i
}

func sessions(n int) []api.SessionRow {
	var l []api.SessionRow
	for i := range n {
		l = append(l, api.SessionRow{Id: uint64(i + 1), Seq: uint64(i)})
	}
	return l
}

func graphs(n int) []api.GraphRow {
	var l []api.GraphRow
	for i := range n {
		l = append(l, api.GraphRow{Id: uint64(i + 1), Graph: single(), States: states(api.Ready)})
	}
	return l
}

func keys(n int) []uint64 {
	var l []uint64
	for i := range n {
		l = append(l, uint64(n-i))
	}
	return l
}

// A layout is what the document says of the bytes of an image, by the plainest means. It takes images that are not right too, and tells where the Vars stand.
type layout struct {
	b    []byte
	vars []int
}

func (x *layout) byte(n int) { x.b = append(x.b, byte(n)) }

func (x *layout) longs(l ...uint64) {
	for _, n := range l {
		x.b = binary.BigEndian.AppendUint64(x.b, n)
	}
}

// count writes a Var, which is a number of elements or of bytes.
func (x *layout) count(n int) {
	x.vars = append(x.vars, len(x.b))
	if n < 253 {
		x.b = append(x.b, byte(n))
	} else {
		x.b = binary.BigEndian.AppendUint16(append(x.b, 253), uint16(n))
	}
}

func (x *layout) text(s string) {
	x.count(len(s))
	x.b = append(x.b, s...)
}

func layoutOf(i api.Image) *layout {
	x := &layout{}
	x.longs(i.Now, i.NextGraph, i.NextToken)
	x.count(len(i.Sessions))
	for _, row := range i.Sessions {
		x.longs(row.Id, row.Seq)
		x.byte(int(row.Answer.Code))
		x.longs(row.Answer.Id, row.Answer.Token, row.Answer.Until)
		x.text(row.Answer.Target)
		x.text(row.Answer.Command)
	}
	x.count(len(i.Graphs))
	for _, row := range i.Graphs {
		x.longs(row.Id)
		x.graph(row.Graph)
		for _, s := range row.States {
			x.byte(s.State)
			x.longs(s.Token, s.Until)
		}
	}
	x.count(len(i.Built))
	x.longs(i.Built...)
	return x
}

func (x *layout) graph(g api.Graph) {
	x.count(len(g.Targets))
	for _, target := range g.Targets {
		x.text(target.Name)
		x.text(target.Command)
		x.count(len(target.Needs))
		for _, need := range target.Needs {
			x.text(need)
		}
	}
}

// bytesOf reads bytes in hexadecimal notation, with blanks anywhere.
func bytesOf(t *testing.T, s string) []byte {
	t.Helper()
	b, err := hex.DecodeString(strings.ReplaceAll(s, " ", ""))
	if err != nil {
		t.Fatal(err)
	}
	return b
}

// long is a number of 8 bytes below 256, in hexadecimal notation.
func long(low string) string { return strings.Repeat("00 ", 7) + low + " " }

// plain answers the same image with nil for each list that is empty.
func plain(i api.Image) api.Image {
	i.Sessions, i.Built = cut(i.Sessions), cut(i.Built)
	i.Graphs = cut(slices.Clone(i.Graphs))
	for n := range i.Graphs {
		row := &i.Graphs[n]
		row.States = cut(row.States)
		row.Graph.Targets = cut(slices.Clone(row.Graph.Targets))
		for m := range row.Graph.Targets {
			row.Graph.Targets[m].Needs = cut(row.Graph.Targets[m].Needs)
		}
	}
	return i
}

func cut[T any](l []T) []T {
	if len(l) == 0 {
		return nil
	}
	return l
}

func same(a, b api.Image) bool { return reflect.DeepEqual(plain(a), plain(b)) }

// encoded answers the encoding of an image that is right.
func encoded(t *testing.T, i api.Image) []byte {
	t.Helper()
	b, e := image.Encode(i)
	if e != api.OK {
		t.Fatalf("Encode of %+v answers %d, want OK", i, e)
	}
	return b
}

// decoded answers the image of bytes that are those of one.
func decoded(t *testing.T, b []byte) api.Image {
	t.Helper()
	i, e := image.Decode(b)
	if e != api.OK {
		t.Fatalf("Decode of % x answers %d, want OK", short(b), e)
	}
	return i
}

// is fails the test unless an image is written as these bytes, and they are read as the image.
func is(t *testing.T, what string, i api.Image, want []byte) {
	t.Helper()
	if b, e := image.Encode(i); e != api.OK || !bytes.Equal(b, want) {
		t.Errorf("%s: Encode answers % x, %d, want % x", what, short(b), e, short(want))
	}
	if got, e := image.Decode(want); e != api.OK || !same(got, i) {
		t.Errorf("%s: Decode answers %d, or another image than was written", what, e)
	}
}

// none fails the test unless these bytes are those of no image.
func none(t *testing.T, what string, b []byte) {
	t.Helper()
	if i, e := image.Decode(b); e != api.ErrImageForm || !reflect.DeepEqual(plain(i), api.Image{}) {
		t.Errorf("%s: Decode of %d bytes answers %+v, %d, want the zero image and ErrImageForm", what, len(b), i, e)
	}
}

// refused fails the test unless an image can't be written.
func refused(t *testing.T, what string, i api.Image) {
	t.Helper()
	if b, e := image.Encode(i); e != api.ErrImageForm || len(b) != 0 {
		t.Errorf("%s: Encode answers % x, %d, want no bytes and ErrImageForm", what, short(b), e)
	}
}

// short cuts what is too long to be read in a report.
func short(b []byte) []byte { return b[:min(len(b), 80)] }

// spoil writes over all the memory of an image, up to the capacities.
func spoil(i api.Image) {
	for _, row := range i.Graphs[:cap(i.Graphs)] {
		spoilGraph(row.Graph)
		fill(row.States, api.State{State: 9, Token: 9, Until: 9})
	}
	fill(i.Graphs, api.GraphRow{Id: 99})
	fill(i.Sessions, api.SessionRow{Id: 99, Seq: 99, Answer: api.Answer{Id: 99}})
	fill(i.Built, 99)
}

func spoilGraph(g api.Graph) {
	for _, target := range g.Targets[:cap(g.Targets)] {
		fill(target.Needs, "spoilt")
	}
	fill(g.Targets, api.Target{Name: "spoilt", Command: "spoilt"})
}

func fill[T any](l []T, with T) {
	for n := range cap(l) {
		l[:cap(l)][n] = with
	}
}
