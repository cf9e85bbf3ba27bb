package elect_test

import (
	"math"
	"math/rand/v2"
	"testing"

	"dockyard/api"
	"dockyard/elect"
)

// of answers a configuration of these voters, and none that learn.
func of(voters ...int) api.Config { return api.Config{Voters: voters} }

// with answers a configuration of these voters and learners.
func with(voters []int, learners ...int) api.Config {
	return api.Config{Voters: voters, Learners: learners}
}

// nodes answers the nodes from one to another.
func nodes(from, to int) []int {
	var l []int
	for n := from; n <= to; n++ {
		l = append(l, n)
	}
	return l
}

// edges answers numbers of 64 bits about the edges.
func edges() []uint64 {
	return []uint64{0, 1, 2, 255, 256, 1<<32 - 1, 1 << 32, math.MaxInt64, 1 << 63, 1<<63 + 1, math.MaxUint64 - 1, math.MaxUint64}
}

// strange answers numbers that are those of no node: about the edges, and some whose lowest bits are those of one.
func strange() []int {
	return []int{-1, -2, -8, -256, 8, 9, 16, 255, 256, 257, 1 << 32, 1<<32 + 1, math.MaxInt, math.MinInt, math.MinInt + 1}
}

// An answer is one that is counted.
type answer struct {
	node int
	good bool
}

// counted answers a tally that has counted some answers.
func counted(c api.Config, l ...answer) *elect.Tally {
	t := elect.New(c)
	for _, a := range l {
		t.Count(a.node, a.good)
	}
	return t
}

// all answers the same answer of several nodes.
func all(good bool, nodes ...int) []answer {
	var l []answer
	for _, n := range nodes {
		l = append(l, answer{n, good})
	}
	return l
}

// plain answers, by the words of the document, whether a tally is won or lost: voter by voter it looks for the first answer.
func plain(c api.Config, l []answer) (won, lost bool) {
	yes, no := 0, 0
	for _, voter := range c.Voters {
		for _, a := range l {
			if a.node != voter || voter < 0 || voter > 7 {
				continue
			}
			if a.good {
				yes++
			} else {
				no++
			}
			break
		}
	}
	return yes > len(c.Voters)-yes, no >= len(c.Voters)-no
}

// stands fails the test unless a tally is won or lost as it should be.
func stands(t *testing.T, what string, x *elect.Tally, won, lost bool) {
	t.Helper()
	if x.Won() != won || x.Lost() != lost {
		t.Errorf("%s: won %v, lost %v, want %v, %v", what, x.Won(), x.Lost(), won, lost)
	}
}

// asked fails the test unless a vote is given or refused as it should be.
func asked(t *testing.T, v api.Vote, term uint64, from int, newer bool, want api.Vote, is bool) {
	t.Helper()
	if got, ok := elect.May(v, term, from, newer); got != want || ok != is {
		t.Errorf("May(%v, %d, %d, %v) answers %v, %v, want %v, %v", v, term, from, newer, got, ok, want, is)
	}
}

// anyNode answers mostly a node, and else a number that is none.
func anyNode(r *rand.Rand) int {
	if l := strange(); r.IntN(6) == 0 {
		return l[r.IntN(len(l))]
	}
	return r.IntN(8)
}

// anyNodes answers some of them, of which some may stand more than once.
func anyNodes(r *rand.Rand, most int) []int {
	var l []int
	for range r.IntN(most + 1) {
		l = append(l, anyNode(r))
	}
	return l
}
