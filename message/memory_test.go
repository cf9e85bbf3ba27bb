package message_test

import (
	"bytes"
	"reflect"
	"slices"
	"testing"

	"dockyard/api"
	"dockyard/message"
)

// fill writes over all the memory of a list, up to its capacity.
func fill[T any](l []T, with T) {
	l = l[:cap(l)]
	for n := range l {
		l[n] = with
	}
}

// parts answers each list of a message as a function that writes over it.
func parts(m api.Message) []func() {
	l := []func(){
		func() { fill(m.Config.Voters, 99) },
		func() { fill(m.Config.Learners, 98) },
		func() { fill(m.Data, 97) },
	}
	for _, x := range m.Entries {
		l = append(l, func() { fill(x.Data, 96) })
	}
	// Last, for it is where the data of the entries are found.
	return append(l, func() { fill(m.Entries, api.Entry{Index: 95, Data: []byte("spoilt")}) })
}

// deep answers a copy that shares no memory, with lists without room behind them.
func deep(m api.Message) api.Message {
	m.Entries = slices.Clone(m.Entries)
	for i := range m.Entries {
		m.Entries[i].Data = bytes.Clone(m.Entries[i].Data)
	}
	m.Config = api.Config{Voters: slices.Clone(m.Config.Voters), Learners: slices.Clone(m.Config.Learners)}
	m.Data = bytes.Clone(m.Data)
	return m
}

// P16.2, R5: what Decode answers shares no memory with what it was given, with other results, or within itself.
func TestDecodeMemory(t *testing.T) {
	for _, m := range samples() {
		given := append(encoded(t, m), 77, 78)
		given = given[:len(given)-2]
		was := bytes.Clone(given[:len(given)+2])
		first, _ := message.Decode(given)
		second, e := message.Decode(given)
		if e != api.OK || !bytes.Equal(given[:len(given)+2], was) {
			t.Fatalf("Decode answers %d, and what it was given became % x", e, short(given))
		}
		for _, spoil := range parts(first) {
			spoil()
			if !same(second, m) || !bytes.Equal(given[:len(given)+2], was) {
				t.Fatal("what is written to one result is seen elsewhere")
			}
		}
		fill(given, 0)
		if !same(second, m) {
			t.Fatal("what is written to the bytes is seen in the result")
		}
		for n := range parts(second) {
			lists(t, was[:len(was)-2], n)
		}
	}
}

// lists writes over one list of a message that is read of b, and fails the test if another list is changed by that.
func lists(t *testing.T, b []byte, n int) {
	t.Helper()
	m, _ := message.Decode(b)
	want := deep(m)
	parts(m)[n]()
	switch n {
	case 0:
		m.Config.Voters = want.Config.Voters
	case 1:
		m.Config.Learners = want.Config.Learners
	case 2:
		m.Data = want.Data
	default:
		if n-3 < len(want.Entries) {
			m.Entries[n-3].Data = want.Entries[n-3].Data
		} else {
			m.Entries = want.Entries
		}
	}
	if !same(m, want) {
		t.Errorf("what is written to list %d is seen in another one: %+v, want %+v", n, m, want)
	}
}

// P16.2, R5: Encode neither changes nor keeps what it is given, and its results are apart.
func TestEncodeMemory(t *testing.T) {
	for _, m := range samples() {
		was := deep(m)
		data, l := append(bytes.Clone(m.Data), 77), append(slices.Clone(m.Entries), api.Entry{Index: 78})
		voters := append(slices.Clone(m.Config.Voters), 79)
		m.Data, m.Entries, m.Config.Voters = data[:len(m.Data)], l[:len(m.Entries)], voters[:len(m.Config.Voters)]
		first, second := encoded(t, m), encoded(t, m)
		if !same(m, was) || data[len(data)-1] != 77 || voters[len(voters)-1] != 79 || !reflect.DeepEqual(l[len(l)-1], api.Entry{Index: 78}) {
			t.Fatalf("Encode has changed %+v", m)
		}
		want := framed(layout(was))
		fill(first, 99)
		if !bytes.Equal(second, want) || !bytes.Equal(encoded(t, m), want) {
			t.Fatal("what is written to one result is seen in another one")
		}
		for _, spoil := range parts(m) {
			spoil()
		}
		if !bytes.Equal(second, want) {
			t.Fatal("what is written to the message is seen in its encoding")
		}
	}
}
