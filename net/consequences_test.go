package net_test

import (
	"math/rand/v2"
	"slices"
	"strconv"
	"strings"
	"testing"

	"dockyard/api"
	"dockyard/net"
)

// A tally counts what has become of one message, with its copies.
type tally struct{ made, dropped, taken int }

// A record is what a test knows of a net: the messages in transit, as written, and the tally of each one ever made.
type record struct {
	transit []string
	tallies map[string]tally
}

func (r *record) made(message string) {
	r.transit = append(r.transit, message)
	x := r.tallies[message]
	x.made++
	r.tallies[message] = x
}

func (r *record) gone(i int, taken bool) {
	x := r.tallies[r.transit[i]]
	if taken {
		x.taken++
	} else {
		x.dropped++
	}
	r.tallies[r.transit[i]] = x
	r.transit = slices.Delete(r.transit, i, i+1)
}

// act does one random thing to the net, and writes into the record what it answered.
func (r *record) act(t *testing.T, n *net.Net, random *rand.Rand) {
	i := random.IntN(n.Len()+2) - 1
	switch random.IntN(5) {
	case 0, 1:
		to, b := random.IntN(3), []byte(strings.Repeat("m", random.IntN(3)))
		if n.Send(to, b) == api.OK {
			r.made(written(to, b))
		}
	case 2:
		if n.Double(i) == api.OK {
			r.made(r.transit[i])
		}
	case 3:
		if n.Drop(i) {
			r.gone(i, false)
		}
	case 4:
		to, b, there := n.Take(i)
		if there {
			gives(t, "Take", to, b, there, r.transit[i])
			r.gone(i, true)
		}
	}
}

// P3.5: of each message, as often taken as made (sent or doubled) and neither dropped nor still in transit.
func TestTallies(t *testing.T) {
	random := rand.New(rand.NewPCG(3, 5))
	for range 200 {
		n, r := net.New(random.IntN(12)-1), &record{tallies: map[string]tally{}}
		for range 100 {
			r.act(t, n, random)
			sees(t, "random calls", n, strings.Join(r.transit, " "))
			inTransit := map[string]int{}
			for i := range n.Len() {
				to, b, _ := n.At(i)
				inTransit[written(to, b)]++
			}
			for message, x := range r.tallies {
				if x.taken != x.made-x.dropped-inTransit[message] {
					t.Fatalf("%s: %+v, and %d in transit", message, x, inTransit[message])
				}
			}
		}
	}
}

// P3.5: the loops for all recipients together are given every message in transit once.
func TestLoopsAreWhole(t *testing.T) {
	random := rand.New(rand.NewPCG(3, 4))
	for range 100 {
		n, r := net.New(12), &record{tallies: map[string]tally{}}
		for range 40 {
			r.act(t, n, random)
			got := make([]string, n.Len())
			for to := range 3 {
				for i, b := range n.To(to) {
					got[i] += written(to, b)
				}
			}
			if !slices.Equal(got, r.transit) {
				t.Fatalf("the loops are given %q, want %q", got, r.transit)
			}
		}
	}
}

// P3.6: what is always taken from position 0 comes in the order in which it was sent, but for what the net refused.
func TestOrder(t *testing.T) {
	random := rand.New(rand.NewPCG(3, 6))
	for range 200 {
		n := net.New(random.IntN(10) + 1)
		var sent, taken []string
		for i := range 100 {
			if random.IntN(2) == 0 {
				to, b := random.IntN(3), []byte(strconv.Itoa(i))
				if n.Send(to, b) == api.OK {
					sent = append(sent, written(to, b))
				}
			} else if to, b, there := n.Take(0); there {
				taken = append(taken, written(to, b))
			}
		}
		for range n.Len() {
			to, b, _ := n.Take(0)
			taken = append(taken, written(to, b))
		}
		if !slices.Equal(sent, taken) {
			t.Fatalf("sent %q, taken %q", sent, taken)
		}
	}
}
