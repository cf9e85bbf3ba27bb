package net_test

import (
	"math"
	"strconv"
	"testing"

	"dockyard/api"
	"dockyard/net"
)

// The chapter's table of examples, line by line.
func TestExamples(t *testing.T) {
	n := net.New(3)
	must(t, n.Send(1, []byte("a")), n.Send(2, []byte("b")), n.Double(0))
	refused(t, "Send to a full net", n.Send(1, []byte("c")), api.ErrNetFull)
	if n.Len() != 3 {
		t.Errorf("Len = %d, want 3", n.Len())
	}
	to, b, there := n.At(2)
	gives(t, "At(2)", to, b, there, "1:a")
	to, b, there = n.At(3)
	nothing(t, "At(3)", to, b, there)
	to, b, there = n.At(-1)
	nothing(t, "At(-1)", to, b, there)
	yields(t, "To(1)", n.To(1), "0:a 2:a")
	to, b, there = n.Take(0)
	gives(t, "Take(0)", to, b, there, "1:a")
	if n.Len() != 2 {
		t.Errorf("Len = %d, want 2", n.Len())
	}
	to, b, there = n.At(0)
	gives(t, "At(0)", to, b, there, "2:b")
	if n.Drop(5) {
		t.Error("Drop(5) is true")
	}
	refused(t, "Double(2)", n.Double(2), api.ErrNetNone)
}

// P3.1, P3.2: there is room for exactly so many, and for none if room is negative.
func TestRoom(t *testing.T) {
	for _, c := range []struct{ room, want int }{
		{math.MinInt, 0}, {-1, 0}, {0, 0}, {1, 1}, {2, 2}, {100, 100}, {api.MaxFlight, api.MaxFlight},
	} {
		n := net.New(c.room)
		if n.Len() != 0 {
			t.Errorf("New(%d) has %d messages", c.room, n.Len())
		}
		for i := range c.want {
			must(t, n.Send(i, nil))
			if n.Len() != i+1 {
				t.Fatalf("New(%d): Len = %d behind %d messages", c.room, n.Len(), i+1)
			}
		}
		for range 3 {
			refused(t, "Send to a full net", n.Send(1, nil), api.ErrNetFull)
		}
		if n.Len() != c.want {
			t.Errorf("New(%d): Len = %d, want %d", c.room, n.Len(), c.want)
		}
	}
}

// P3.1: a great room costs nothing ahead of the messages.
func TestGreatRoom(t *testing.T) {
	n := net.New(math.MaxInt)
	for i := range 1000 {
		must(t, n.Send(i, []byte{byte(i)}), n.Double(i))
	}
	if n.Len() != 2000 {
		t.Errorf("Len = %d, want 2000", n.Len())
	}
}

// P3.2: a message goes behind all others, whatever its recipient and its contents.
func TestSend(t *testing.T) {
	n := net.New(10)
	recipients := []int{0, 1, -1, math.MaxInt, math.MinInt, 1}
	contents := []string{"", "a", "\x00", "\xff\x80\x00\xc3", " ", "a"}
	for i := range recipients {
		must(t, n.Send(recipients[i], []byte(contents[i])))
	}
	for i := range recipients {
		to, b, there := n.At(i)
		gives(t, "At("+strconv.Itoa(i)+")", to, b, there, written(recipients[i], []byte(contents[i])))
	}
	if n.Len() != len(recipients) {
		t.Errorf("Len = %d, want %d", n.Len(), len(recipients))
	}
}

// P3.2: nil and no bytes are the same contents (R4); the message is there all the same.
func TestSendNothing(t *testing.T) {
	n := net.New(2)
	must(t, n.Send(7, nil), n.Send(7, []byte{}))
	for range 2 {
		if to, b, there := n.Take(0); to != 7 || len(b) != 0 || !there {
			t.Errorf("Take answers %d, %q, %v, want 7, nothing, true", to, b, there)
		}
	}
}

// P3.2: a refused Send changes nothing; a message that goes makes room for another one.
func TestFull(t *testing.T) {
	n := net.New(2)
	must(t, n.Send(1, []byte("a")), n.Send(2, []byte("b")))
	refused(t, "Send to a full net", n.Send(3, []byte("c")), api.ErrNetFull)
	refused(t, "Send of nothing to a full net", n.Send(3, nil), api.ErrNetFull)
	sees(t, "refused", n, "1:a 2:b")
	n.Take(0)
	must(t, n.Send(3, []byte("c")))
	refused(t, "Send to a net that is full again", n.Send(4, nil), api.ErrNetFull)
	n.Drop(1)
	must(t, n.Double(0))
	refused(t, "Double in a net that is full again", n.Double(0), api.ErrNetFull)
	sees(t, "full again", n, "2:b 2:b")
}

// P3.3: At changes nothing.
func TestAt(t *testing.T) {
	n := four(t)
	for range 2 {
		for i, want := range []string{"1:a", "2:", "1:bb", "-3:c"} {
			to, b, there := n.At(i)
			gives(t, "At("+strconv.Itoa(i)+")", to, b, there, want)
		}
	}
	sees(t, "At", n, "1:a 2: 1:bb -3:c")
}

// P3.3: Take answers what At would have, and Drop removes the same; later messages move up, earlier ones stay.
func TestTakeAndDrop(t *testing.T) {
	for i, want := range []string{"2: 1:bb -3:c", "1:a 1:bb -3:c", "1:a 2: -3:c", "1:a 2: 1:bb"} {
		n, m := four(t), four(t)
		to, b, there := n.At(i)
		message := written(to, b)
		to, b, there = n.Take(i)
		gives(t, "Take("+strconv.Itoa(i)+")", to, b, there, message)
		sees(t, "Take("+strconv.Itoa(i)+")", n, want)
		if !m.Drop(i) {
			t.Errorf("Drop(%d) is false", i)
		}
		sees(t, "Drop("+strconv.Itoa(i)+")", m, want)
		must(t, n.Send(9, []byte("z")), m.Double(0))
		if n.Len() != 4 || m.Len() != 4 {
			t.Errorf("Len = %d, %d, want 4, 4", n.Len(), m.Len())
		}
	}
}

// P3.3: what is removed is gone, down to the last message, and an empty net takes new ones.
func TestTakeAll(t *testing.T) {
	n := four(t)
	for _, want := range []string{"-3:c", "1:bb", "2:", "1:a"} {
		to, b, there := n.Take(n.Len() - 1)
		gives(t, "Take of the last one", to, b, there, want)
	}
	to, b, there := n.Take(0)
	nothing(t, "Take(0) of an empty net", to, b, there)
	to, b, there = n.Take(-1)
	nothing(t, "Take(-1) of an empty net", to, b, there)
	if n.Drop(0) || n.Len() != 0 {
		t.Errorf("Drop(0) of an empty net is true, or Len = %d", n.Len())
	}
	must(t, n.Send(5, []byte("e")))
	sees(t, "Send to an emptied net", n, "5:e")
}

// P3.3: the copy has the recipient and the contents, and goes behind all others; the original stays.
func TestDouble(t *testing.T) {
	for i, want := range []string{"1:a", "2:", "1:bb", "-3:c"} {
		n := four(t)
		must(t, n.Double(i))
		sees(t, "Double("+strconv.Itoa(i)+")", n, "1:a 2: 1:bb -3:c "+want)
		must(t, n.Double(4))
		sees(t, "Double of a copy", n, "1:a 2: 1:bb -3:c "+want+" "+want)
		n.Drop(i)
		to, b, there := n.At(4)
		gives(t, "the copy without its original", to, b, there, want)
	}
}

// P3.3, R10: no such position; P3.3: ErrNetNone ahead of ErrNetFull.
func TestNoPosition(t *testing.T) {
	empty, full, none := net.New(5), net.New(1), net.New(-2)
	must(t, full.Send(1, []byte("a")))
	for _, n := range []*net.Net{empty, full, none, four(t)} {
		before := look(n)
		for _, i := range []int{-1, n.Len(), n.Len() + 1, 10000, -10000, math.MaxInt, math.MinInt} {
			to, b, there := n.At(i)
			nothing(t, "At("+strconv.Itoa(i)+")", to, b, there)
			to, b, there = n.Take(i)
			nothing(t, "Take("+strconv.Itoa(i)+")", to, b, there)
			if n.Drop(i) {
				t.Errorf("Drop(%d) is true", i)
			}
			refused(t, "Double("+strconv.Itoa(i)+")", n.Double(i), api.ErrNetNone)
		}
		sees(t, "no position", n, before)
	}
	refused(t, "Double in a full net", full.Double(0), api.ErrNetFull)
	sees(t, "Double in a full net", full, "1:a")
}

// R5: Send keeps nothing of what it was given, and does not write there either.
func TestGivenMemory(t *testing.T) {
	n := net.New(4)
	given := make([]byte, 3, 16)
	copy(given[:4], "abcd")
	must(t, n.Send(1, given), n.Send(2, given[:1]), n.Double(0))
	if string(given[:4]) != "abcd" {
		t.Errorf("the argument is now %q", given[:4])
	}
	fill(given)
	sees(t, "the argument is written", n, "1:abc 2:a 1:abc")
}

// R5: whatever is written into an answer, neither the net nor another answer changes.
func TestAnsweredMemory(t *testing.T) {
	n := net.New(4)
	must(t, n.Send(1, []byte("abc")), n.Double(0), n.Double(0))
	c := n.Clone()
	_, at, _ := n.At(0)
	_, again, _ := n.At(0)
	fill(at)
	if string(again) != "abc" {
		t.Errorf("another answer of At is now %q", again)
	}
	sees(t, "an answer of At is written", n, "1:abc 1:abc 1:abc")
	_, taken, _ := n.Take(0)
	fill(taken)
	if string(again) != "abc" {
		t.Errorf("an answer of At is now %q", again)
	}
	sees(t, "an answer of Take is written", n, "1:abc 1:abc")
	for _, b := range n.To(1) {
		fill(b)
	}
	sees(t, "what a loop was given is written", n, "1:abc 1:abc")
	sees(t, "the clone", c, "1:abc 1:abc 1:abc")
	if string(again) != "abc" {
		t.Errorf("an answer of At is now %q", again)
	}
}

// P3.4, R7: a clone has the messages and the room, and goes its own way from then on.
func TestClone(t *testing.T) {
	const before = "1:a 2: 1:bb -3:c"
	n := four(t)
	c := n.Clone()
	sees(t, "a clone", c, before)
	changeAll(c)
	sees(t, "the clone was changed", n, before)
	c = n.Clone()
	changeAll(n)
	sees(t, "the net was changed", c, before)
	must(t, c.Send(1, nil), c.Double(0))
	refused(t, "Send to a clone that is full", c.Send(1, nil), api.ErrNetFull)
	refused(t, "Double in a clone that is full", c.Double(0), api.ErrNetFull)
}

// P3.4, R7: both may grow in one and the same place without being seen by the other one.
func TestCloneGrows(t *testing.T) {
	n := net.New(100)
	for i := range 20 {
		must(t, n.Send(i, []byte("x")))
		c := n.Clone()
		before := look(n)
		must(t, n.Send(1, []byte("n")), c.Send(2, []byte("c")))
		sees(t, "the net", n, before+" 1:n")
		sees(t, "the clone", c, before+" 2:c")
		n.Drop(n.Len() - 1)
	}
}

func TestCloneEmpty(t *testing.T) {
	c := net.New(1).Clone()
	if c.Len() != 0 {
		t.Errorf("Len = %d, want 0", c.Len())
	}
	must(t, c.Send(1, nil))
	refused(t, "Send to a clone that is full", c.Send(1, nil), api.ErrNetFull)
	refused(t, "Send to a clone without room", net.New(-1).Clone().Send(1, nil), api.ErrNetFull)
}

func changeAll(n *net.Net) {
	n.Send(8, []byte("new"))
	n.Double(0)
	n.Take(0)
	n.Drop(1)
	n.Double(1)
	n.Send(8, nil)
}
