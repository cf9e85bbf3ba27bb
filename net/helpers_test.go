package net_test

import (
	"iter"
	"strconv"
	"strings"
	"testing"

	"dockyard/api"
	"dockyard/net"
)

// must fails the test unless all of these were done.
func must(t *testing.T, errs ...api.Errno) {
	t.Helper()
	for i, e := range errs {
		if e != api.OK {
			t.Fatalf("call %d answers %d, want OK", i, e)
		}
	}
}

func refused(t *testing.T, what string, got, want api.Errno) {
	t.Helper()
	if got != want {
		t.Errorf("%s answers %d, want %d", what, got, want)
	}
}

// written is a number with some bytes: a message, or what a loop was given.
func written(number int, b []byte) string {
	return strconv.Itoa(number) + ":" + string(b)
}

// look tells all messages, by their positions.
func look(n *net.Net) string {
	var l []string
	for i := range n.Len() {
		to, b, there := n.At(i)
		if !there {
			return "no message at position " + strconv.Itoa(i)
		}
		l = append(l, written(to, b))
	}
	return strings.Join(l, " ")
}

func sees(t *testing.T, what string, n *net.Net, want string) {
	t.Helper()
	if got := look(n); got != want {
		t.Errorf("%s: the messages are %q, want %q", what, got, want)
	}
}

// all tells what a loop over an iterator is given.
func all(s iter.Seq2[int, []byte]) string {
	var l []string
	for i, b := range s {
		l = append(l, written(i, b))
	}
	return strings.Join(l, " ")
}

func yields(t *testing.T, what string, s iter.Seq2[int, []byte], want string) {
	t.Helper()
	if got := all(s); got != want {
		t.Errorf("%s: the loop is given %q, want %q", what, got, want)
	}
}

// gives fails the test unless At or Take has answered this message.
func gives(t *testing.T, what string, to int, b []byte, there bool, want string) {
	t.Helper()
	if !there || written(to, b) != want {
		t.Errorf("%s answers %d, %q, %v, want %s", what, to, b, there, want)
	}
}

// nothing fails the test unless At or Take has answered that there is no such position.
func nothing(t *testing.T, what string, to int, b []byte, there bool) {
	t.Helper()
	if to != 0 || b != nil || there {
		t.Errorf("%s answers %d, %q, %v, want 0, nil, false", what, to, b, there)
	}
}

// fill overwrites a slice with its capacity: nothing else may change by that.
func fill(b []byte) {
	b = b[:cap(b)]
	for i := range b {
		b[i] = 0xee
	}
}

// four has messages for three recipients, one of them without contents, and room for two more.
func four(t *testing.T) *net.Net {
	t.Helper()
	n := net.New(6)
	must(t, n.Send(1, []byte("a")), n.Send(2, nil), n.Send(1, []byte("bb")), n.Send(-3, []byte("c")))
	return n
}
