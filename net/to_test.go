package net_test

import (
	"math"
	"testing"

	"dockyard/net"
)

// P3.4: the messages for one recipient alone, in order, with their positions among all messages.
func TestTo(t *testing.T) {
	n := four(t)
	must(t, n.Double(0), n.Double(1))
	for _, c := range []struct {
		to   int
		want string
	}{
		{1, "0:a 2:bb 4:a"}, {2, "1: 5:"}, {-3, "3:c"},
		{0, ""}, {3, ""}, {-1, ""}, {math.MaxInt, ""}, {math.MinInt, ""},
	} {
		yields(t, "To", n.To(c.to), c.want)
	}
	sees(t, "To", n, "1:a 2: 1:bb -3:c 1:a 2:")
	yields(t, "To of an empty net", net.New(3).To(0), "")
	yields(t, "To of a net without room", net.New(-3).To(0), "")
}

// P3.4: the recipient may be any number.
func TestToAnyNumber(t *testing.T) {
	n := net.New(9)
	numbers := []int{0, -1, math.MaxInt, math.MinInt}
	for _, to := range numbers {
		must(t, n.Send(to, []byte("x")))
	}
	for i, to := range numbers {
		yields(t, "To", n.To(to), written(i, []byte("x")))
	}
}

// P3.4: what counts is the beginning of the loop, not the call of To.
func TestToBegins(t *testing.T) {
	n := net.New(9)
	loop := n.To(1)
	yields(t, "ahead of the messages", loop, "")
	must(t, n.Send(2, []byte("b")), n.Send(1, []byte("a")))
	yields(t, "two messages", loop, "1:a")
	must(t, n.Send(1, []byte("c")))
	yields(t, "three messages", loop, "1:a 2:c")
	n.Drop(0)
	yields(t, "two again", loop, "0:a 1:c")
	n.Take(0)
	n.Take(0)
	yields(t, "none again", loop, "")
}

// P3.4: whatever is done during a loop, it yields what was there when it began; the next loop sees what was done.
func TestToWhileChanged(t *testing.T) {
	for _, c := range []struct {
		what  string
		do    func(n *net.Net)
		after string
	}{
		{"Send", func(n *net.Net) { n.Send(1, []byte("z")) }, "0:a 2:bb 4:a 6:z 7:z 8:z"},
		{"Double", func(n *net.Net) { n.Double(2) }, "0:a 2:bb 4:a 6:bb 7:bb 8:bb"},
		{"Drop of the first", func(n *net.Net) { n.Drop(0) }, "1:a"},
		{"Drop of the last", func(n *net.Net) { n.Drop(n.Len() - 1) }, "0:a 2:bb"},
		{"Take of the first", func(n *net.Net) { n.Take(0) }, "1:a"},
		{"Drop of all", dropAll, ""},
		{"Take, and Send in its place", func(n *net.Net) { n.Take(0); n.Send(1, []byte("y")) }, "1:a 3:y 4:y 5:y"},
		{"all anew", func(n *net.Net) {
			dropAll(n)
			for range 9 {
				n.Send(1, []byte("n"))
			}
		}, "0:n 1:n 2:n 3:n 4:n 5:n 6:n 7:n 8:n"},
	} {
		n := net.New(9)
		must(t, n.Send(1, []byte("a")), n.Send(2, []byte("b")), n.Send(1, []byte("bb")), n.Send(-3, nil), n.Double(0), n.Send(2, nil))
		loop := n.To(1)
		yields(t, c.what, changed(n, loop, c.do), "0:a 2:bb 4:a")
		yields(t, c.what+", behind it", loop, c.after)
	}
}

func dropAll(n *net.Net) {
	for range n.Len() {
		n.Drop(0)
	}
}

// changed is the loop during which something is done to the net behind each message.
func changed(n *net.Net, loop func(func(int, []byte) bool), do func(n *net.Net)) func(func(int, []byte) bool) {
	return func(yield func(int, []byte) bool) {
		for i, b := range loop {
			do(n)
			if !yield(i, b) {
				return
			}
		}
	}
}

// P3.4: a loop that is left early is not gone on with, and the next one begins anew.
func TestToLeftEarly(t *testing.T) {
	n := net.New(9)
	must(t, n.Send(1, []byte("a")), n.Send(1, []byte("b")), n.Send(2, nil), n.Send(1, []byte("c")))
	loop := n.To(1)
	for most := range 4 {
		given := 0
		loop(func(int, []byte) bool {
			given++
			return given <= most
		})
		if want := min(most+1, 3); given != want {
			t.Errorf("a loop that is left at message %d is given %d messages, want %d", most, given, want)
		}
		yields(t, "behind a loop that was left", loop, "0:a 1:b 3:c")
	}
	sees(t, "loops", n, "1:a 1:b 2: 1:c")
}

// P3.4: loops over one iterator inside each other do not know of each other.
func TestToNested(t *testing.T) {
	n := four(t)
	loop := n.To(1)
	outer := 0
	for range loop {
		yields(t, "the inner loop", loop, []string{"0:a 2:bb", "0:a 2:bb 4:z"}[outer])
		must(t, n.Send(1, []byte("z")))
		outer++
	}
	if outer != 2 {
		t.Errorf("the outer loop is given %d messages, want 2", outer)
	}
}

// P3.4, R11: what a loop is given is new memory, even while other loops go on.
func TestToMemory(t *testing.T) {
	n := net.New(9)
	must(t, n.Send(1, []byte("abc")), n.Double(0), n.Double(0))
	c := n.Clone()
	loop := n.To(1)
	var kept [][]byte
	for _, b := range loop {
		if string(b) != "abc" {
			t.Errorf("the loop is given %q, want abc", b)
		}
		kept = append(kept, b)
		if _, taken, there := n.Take(n.Len() - 1); there {
			fill(taken)
		}
		for _, again := range c.To(1) {
			fill(again)
		}
	}
	fill(kept[0])
	if string(kept[1]) != "abc" || string(kept[2]) != "abc" {
		t.Errorf("what the loop was given is now %q", kept)
	}
	sees(t, "the clone", c, "1:abc 1:abc 1:abc")
}

// P3.4, R7: the iterator of a net does not turn to its clone, nor the other way round.
func TestToOfClone(t *testing.T) {
	n := four(t)
	loop := n.To(1)
	c := n.Clone()
	copied := c.To(1)
	must(t, n.Send(1, []byte("n")))
	c.Drop(0)
	yields(t, "the net's", loop, "0:a 2:bb 4:n")
	yields(t, "the clone's", copied, "1:bb")
}
