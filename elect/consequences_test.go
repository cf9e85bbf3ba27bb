package elect_test

import (
	"math/rand/v2"
	"testing"

	"dockyard/api"
	"dockyard/elect"
)

// P17.4: of two tallies in which no node has said yes to both, at most one is won: each node of each configuration says yes to one, to the other or to none.
func TestAtMostOneWon(t *testing.T) {
	wins := 0
	for bits := range 256 {
		var voters []int
		for n := range 8 {
			if bits>>n&1 == 1 {
				voters = append(voters, n)
			}
		}
		ways := 1
		for range voters {
			ways *= 3
		}
		for way := range ways {
			a, b := elect.New(of(voters...)), elect.New(of(voters...))
			for _, n := range voters {
				a.Count(n, way%3 == 1)
				b.Count(n, way%3 == 2)
				way /= 3
			}
			if a.Won() && b.Won() {
				t.Fatalf("both tallies of the voters %v are won", voters)
			}
			if a.Won() || b.Won() {
				wins++
			}
		}
	}
	if wins < 1000 {
		t.Errorf("only %d tallies were won", wins)
	}
}

// P17.4: the same with any configurations, and answers that come in any order, also again.
func TestAtMostOneWonAny(t *testing.T) {
	r := rand.New(rand.NewPCG(17, 4))
	wins := 0
	for range 50000 {
		c := with(anyNodes(r, 12), anyNodes(r, 3)...)
		tallies := [2]*elect.Tally{elect.New(c), elect.New(c)}
		var yes [8]int // to which of the two a node says yes, if it does
		for n := range yes {
			yes[n] = r.IntN(5) / 2
		}
		for range r.IntN(40) {
			n, to := anyNode(r), r.IntN(2)
			good := r.IntN(2) == 0
			if n >= 0 && n < 8 {
				good = yes[n] == to
			}
			tallies[to].Count(n, good)
		}
		if tallies[0].Won() && tallies[1].Won() {
			t.Fatalf("both tallies of %v are won", c)
		}
		if tallies[0].Won() || tallies[1].Won() {
			wins++
		}
	}
	if wins < 1000 {
		t.Errorf("only %d tallies were won", wins)
	}
}

// P17.4: whatever a node is asked, it does not say yes to two nodes in one term: all rows of five asks.
func TestOneVotePerTerm(t *testing.T) {
	type given [3]int // in each term, to whom the node has said yes, and one more; 0 for nobody
	var next func(v api.Vote, to given, left int)
	next = func(v api.Vote, to given, left int) {
		if left == 0 {
			return
		}
		for term := range uint64(3) {
			for from := range 2 {
				for _, newer := range []bool{true, false} {
					w, is := elect.May(v, term, from, newer)
					if w.Term < v.Term {
						t.Fatalf("the term falls from %v to %v", v, w)
					}
					now := to
					if is {
						if to[term] != 0 && to[term] != from+1 {
							t.Fatalf("yes in the term %d to %d and to %d", term, to[term]-1, from)
						}
						now[term] = from + 1
					}
					next(w, now, left-1)
				}
			}
		}
	}
	next(api.Vote{Term: 0, For: -1}, given{}, 5)
}

// P17.4: a term has at most one leader: nodes stand in any terms, and their asks and the answers to them come late, again or not at all.
func TestOneLeaderPerTerm(t *testing.T) {
	type run struct {
		term uint64
		node int
	}
	r := rand.New(rand.NewPCG(17, 5))
	leaders := 0
	for range 300 {
		voters := nodes(0, r.IntN(8))
		votes := make([]api.Vote, len(voters))
		for n := range votes {
			votes[n].For = -1
		}
		tallies, leader, runs := map[run]*elect.Tally{}, map[uint64]int{}, []run(nil)
		for range 200 {
			if len(runs) == 0 || r.IntN(6) == 0 {
				stands := run{1 + uint64(r.IntN(12)), r.IntN(len(voters))}
				if tallies[stands] == nil {
					tallies[stands] = elect.New(of(voters...))
				}
				runs = append(runs, stands)
			}
			x, n, good := runs[r.IntN(len(runs))], r.IntN(len(voters)), false
			votes[n], good = elect.May(votes[n], x.term, x.node, r.IntN(4) > 0)
			if r.IntN(5) == 0 {
				continue // the answer is lost
			}
			tallies[x].Count(n, good)
			if !tallies[x].Won() {
				continue
			}
			if was, there := leader[x.term]; there && was != x.node {
				t.Fatalf("the term %d has the leaders %d and %d", x.term, was, x.node)
			}
			leader[x.term] = x.node
		}
		leaders += len(leader)
	}
	if leaders < 300 {
		t.Errorf("there were only %d leaders", leaders)
	}
}
