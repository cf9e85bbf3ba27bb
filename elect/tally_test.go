package elect_test

import (
	"fmt"
	"math/rand/v2"
	"slices"
	"testing"

	"dockyard/api"
	"dockyard/elect"
)

// P17.3: of one to MaxNodes voters, how many must say yes for a tally to be won, and no for it to be lost.
func TestHalves(t *testing.T) {
	for _, k := range []struct{ voters, yes, no int }{
		{1, 1, 1}, {2, 2, 1}, {3, 2, 2}, {4, 3, 2}, {5, 3, 3}, {6, 4, 3}, {7, 4, 4}, {8, 5, 4},
	} {
		c := with(nodes(8-k.voters, 7), nodes(0, 7-k.voters)...)
		won, lost := elect.New(c), elect.New(c)
		stands(t, "no answer", won, false, false)
		for n := range k.voters {
			voter := 8 - k.voters + n
			won.Count(voter, true)
			lost.Count(voter, false)
			stands(t, fmt.Sprintf("yes of %d of %d", n+1, k.voters), won, n+1 >= k.yes, false)
			stands(t, fmt.Sprintf("no of %d of %d", n+1, k.voters), lost, false, n+1 >= k.no)
		}
	}
}

// P17.3: each voter says yes, no or nothing, in all ways.
func TestTallies(t *testing.T) {
	states := map[[2]bool]int{}
	for voters := 1; voters <= api.MaxNodes; voters++ {
		c := of(nodes(0, voters-1)...)
		ways := 1
		for range voters {
			ways *= 3
		}
		for way := range ways {
			x, yes, no := elect.New(c), 0, 0
			for n := range voters {
				switch way % 3 {
				case 1:
					x.Count(n, true)
					yes++
				case 2:
					x.Count(n, false)
					no++
				}
				way /= 3
			}
			stands(t, fmt.Sprintf("%d yes and %d no of %d", yes, no, voters), x, yes > voters-yes, no >= voters-no)
			states[[2]bool{x.Won(), x.Lost()}]++
		}
	}
	if states[[2]bool{true, true}] != 0 || len(states) != 3 {
		t.Errorf("of won and lost there were %v", states)
	}
}

// P17.3: only the first answer of each voter counts, be the later ones the same or not.
func TestFirstAnswer(t *testing.T) {
	c := of(0, 1, 2)
	for bits := range 8 {
		later := []answer{{1, bits&1 == 1}, {1, bits&2 == 2}, {1, bits&4 == 4}}
		yes := counted(c, slices.Concat(all(true, 1), later)...)
		stands(t, fmt.Sprintf("yes, and then %v", later), yes, false, false)
		no := counted(c, slices.Concat(all(false, 1), later)...)
		stands(t, fmt.Sprintf("no, and then %v", later), no, false, false)
		yes.Count(2, true)
		no.Count(2, true)
		stands(t, fmt.Sprintf("yes, %v, and yes of another one", later), yes, true, false)
		stands(t, fmt.Sprintf("no, %v, and yes of another one", later), no, false, false)
		yes.Count(0, false)
		no.Count(0, false)
		stands(t, fmt.Sprintf("yes, %v, and both of others", later), yes, true, false)
		stands(t, fmt.Sprintf("no, %v, and both of others", later), no, false, true)
	}
	// What is decided stays so.
	won := counted(c, slices.Concat(all(true, 0, 1), all(false, 0, 1, 0, 1))...)
	stands(t, "won, and then no of all of them", won, true, false)
	lost := counted(c, slices.Concat(all(false, 0, 1), all(true, 0, 1, 0, 1))...)
	stands(t, "lost, and then yes of all of them", lost, false, true)
}

// P17.3: the answers of nodes that are no voters have no effect: learners, others, and numbers that are those of no node.
func TestNoVoter(t *testing.T) {
	c := with([]int{2, 4, 5}, 1, 7)
	others := append([]int{0, 1, 3, 6, 7}, strange()...)
	for _, n := range others {
		for _, good := range []bool{true, false} {
			x := counted(c, answer{n, good}, answer{n, good}, answer{n, !good})
			stands(t, fmt.Sprintf("%v of %d", good, n), x, false, false)
			x.Count(2, true)
			stands(t, fmt.Sprintf("%v of %d, and a yes", good, n), x, false, false)
			x.Count(4, true)
			stands(t, fmt.Sprintf("%v of %d, and two yes", good, n), x, true, false)
		}
	}
	stands(t, "yes of all others", counted(c, all(true, others...)...), false, false)
	stands(t, "no of all others", counted(c, all(false, others...)...), false, false)
	stands(t, "yes of all others, no of voters", counted(c, append(all(true, others...), all(false, 5, 4)...)...), false, true)
}

// P17.3: a voter that stands twice in Voters is two of its elements, and one answer of it counts for both.
func TestTwice(t *testing.T) {
	for _, k := range []struct {
		voters    []int
		l         []answer
		won, lost bool
	}{
		{[]int{0, 0}, nil, false, false},
		{[]int{0, 0}, all(true, 0), true, false},
		{[]int{0, 0}, all(false, 0), false, true},
		{[]int{0, 0, 1}, all(true, 0), true, false},
		{[]int{0, 1, 0}, all(false, 0), false, true},
		{[]int{0, 0, 1}, all(true, 1), false, false},
		{[]int{1, 0, 0}, all(false, 1), false, false},
		{[]int{0, 0, 1}, all(true, 1, 1, 1), false, false},
		{[]int{0, 1, 1, 2}, all(true, 1), false, false},
		{[]int{0, 1, 1, 2}, all(true, 1, 1), false, false},
		{[]int{0, 1, 1, 2}, all(false, 1), false, true},
		{[]int{1, 2, 0, 1}, all(true, 1, 2), true, false},
		{[]int{0, 1, 1, 2, 3}, all(false, 1), false, false},
		{[]int{0, 1, 1, 2, 3}, all(false, 1, 3), false, true},
		{[]int{7, 7, 7, 6, 6}, all(true, 7), true, false},
		{[]int{7, 7, 7, 6, 6}, all(true, 6), false, false},
		{[]int{7, 7, 7, 6, 6}, append(all(false, 6), all(true, 6, 7)...), true, false},
		{append(slices.Repeat([]int{3}, 300), nodes(0, 7)...), all(true, 0, 1, 2, 4, 5, 6, 7), false, false},
		{append(slices.Repeat([]int{3}, 300), nodes(0, 7)...), all(true, 3), true, false},
		{append(slices.Repeat([]int{3}, 300), slices.Repeat([]int{4}, 300)...), all(true, 3), false, false},
		{append(slices.Repeat([]int{3}, 300), slices.Repeat([]int{4}, 300)...), all(false, 3), false, true},
		{append(slices.Repeat([]int{3}, 300), slices.Repeat([]int{4}, 301)...), all(false, 3), false, false},
	} {
		stands(t, fmt.Sprintf("%v of the voters %v", k.l, k.voters), counted(of(k.voters...), k.l...), k.won, k.lost)
	}
}

// P17.3: voters that are no nodes are elements of Voters, but their answers have no effect.
func TestStrangeVoters(t *testing.T) {
	for _, n := range strange() {
		alone := of(n)
		stands(t, fmt.Sprintf("the voter %d alone, yes", n), counted(alone, all(true, n)...), false, false)
		stands(t, fmt.Sprintf("the voter %d alone, no", n), counted(alone, all(false, n)...), false, false)
		for node := range api.MaxNodes {
			stands(t, fmt.Sprintf("the voter %d alone, no of %d", n, node), counted(alone, all(false, node)...), false, false)
			stands(t, fmt.Sprintf("the voter %d alone, yes of %d", n, node), counted(alone, all(true, node)...), false, false)
			pair := of(node, n)
			stands(t, fmt.Sprintf("%d of %v, yes", node, pair), counted(pair, all(true, node, n)...), false, false)
			stands(t, fmt.Sprintf("%d of %v, no", node, pair), counted(pair, all(false, node)...), false, true)
			stands(t, fmt.Sprintf("%d of %v, no", n, pair), counted(pair, all(false, n)...), false, false)
		}
		three := of(n, 0, 7)
		stands(t, fmt.Sprintf("0 of %v", three), counted(three, all(true, 0, n)...), false, false)
		stands(t, fmt.Sprintf("0, 7 of %v", three), counted(three, all(true, 0, 7)...), true, false)
		stands(t, fmt.Sprintf("0 of %v, no", three), counted(three, all(false, n, 0)...), false, false)
		stands(t, fmt.Sprintf("0, 7 of %v, no", three), counted(three, all(false, 7, 0)...), false, true)
		most := of(n, n, 5)
		stands(t, fmt.Sprintf("5 of %v", most), counted(most, all(true, n, 5)...), false, false)
		stands(t, fmt.Sprintf("5 of %v, no", most), counted(most, all(false, n, 5)...), false, false)
	}
}

// P17.3: without voters there are no yes, which are not more than half of none; and no no, which are half of none.
func TestNoVoters(t *testing.T) {
	for _, c := range []api.Config{{}, {Voters: []int{}, Learners: []int{}}, with(nil, 0), with(nil, nodes(0, 7)...)} {
		stands(t, "no voters", elect.New(c), false, true)
		for n := -1; n <= 8; n++ {
			stands(t, "no voters, yes", counted(c, all(true, n)...), false, true)
			stands(t, "no voters, no", counted(c, all(false, n)...), false, true)
		}
	}
}

// P17.3: what stands in Learners makes no difference, even if a voter does; neither does the order of Voters.
func TestLists(t *testing.T) {
	for _, c := range []api.Config{of(1, 3, 6), of(6, 1, 3), of(3, 6, 1), with([]int{6, 3, 1}, 1, 3, 6), with([]int{1, 3, 6}, nodes(0, 7)...), with([]int{1, 3, 6}, -1, 8, 8)} {
		stands(t, fmt.Sprint(c), elect.New(c), false, false)
		stands(t, fmt.Sprint(c), counted(c, all(true, 1)...), false, false)
		stands(t, fmt.Sprint(c), counted(c, all(true, 1, 6)...), true, false)
		stands(t, fmt.Sprint(c), counted(c, all(false, 3)...), false, false)
		stands(t, fmt.Sprint(c), counted(c, all(false, 3, 6)...), false, true)
		stands(t, fmt.Sprint(c), counted(c, append(all(true, 3), all(false, 6)...)...), false, false)
	}
}

// P17.3: any answers to any configurations, held against the words of the document after each of them.
func TestAnyTallies(t *testing.T) {
	r := rand.New(rand.NewPCG(17, 3))
	states := map[[2]bool]int{}
	for range 20000 {
		c := with(anyNodes(r, 1+r.IntN(12)), anyNodes(r, 4)...)
		x, l := elect.New(c), []answer(nil)
		lean := r.IntN(5)
		for range r.IntN(12) {
			a := answer{anyNode(r), r.IntN(4) < lean}
			x.Count(a.node, a.good)
			l = append(l, a)
			won, lost := plain(c, l)
			if x.Won() != won || x.Lost() != lost {
				t.Fatalf("%v of %v: won %v, lost %v, want %v, %v", l, c, x.Won(), x.Lost(), won, lost)
			}
			states[[2]bool{won, lost}]++
		}
	}
	for _, s := range [][2]bool{{false, false}, {true, false}, {false, true}} {
		if states[s] < 1000 {
			t.Errorf("of won and lost there were only %v", states)
		}
	}
}
