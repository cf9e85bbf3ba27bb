package ready_test

import (
	"fmt"
	"math/rand/v2"
	"slices"
	"testing"

	"dockyard/api"
	"dockyard/ready"
)

// P9.1: what waits becomes ready once all of its needs are done, and is skipped as soon as one of them is failed, skipped or cancelled.
func TestSettle(t *testing.T) {
	two := of(target("a", "b"), target("b"))
	three := of(target("a", "b", "c"), target("b"), target("c"))
	for _, c := range []struct {
		g       api.Graph
		l, want []int
	}{
		{of(target("a")), []int{api.Waiting}, []int{api.Ready}},
		{two, []int{api.Waiting, api.Waiting}, []int{api.Waiting, api.Ready}},
		{two, []int{api.Waiting, api.Ready}, []int{api.Waiting, api.Ready}},
		{two, []int{api.Waiting, api.Leased}, []int{api.Waiting, api.Leased}},
		{two, []int{api.Waiting, api.Done}, []int{api.Ready, api.Done}},
		{two, []int{api.Waiting, api.Failed}, []int{api.Skipped, api.Failed}},
		{two, []int{api.Waiting, api.Skipped}, []int{api.Skipped, api.Skipped}},
		{two, []int{api.Waiting, api.Cancelled}, []int{api.Skipped, api.Cancelled}},
		{three, []int{api.Waiting, api.Done, api.Done}, []int{api.Ready, api.Done, api.Done}},
		{three, []int{api.Waiting, api.Done, api.Waiting}, []int{api.Waiting, api.Done, api.Ready}},
		{three, []int{api.Waiting, api.Ready, api.Done}, []int{api.Waiting, api.Ready, api.Done}},
		{three, []int{api.Waiting, api.Leased, api.Failed}, []int{api.Skipped, api.Leased, api.Failed}},
		{three, []int{api.Waiting, api.Cancelled, api.Ready}, []int{api.Skipped, api.Cancelled, api.Ready}},
		{three, []int{api.Waiting, api.Skipped, api.Done}, []int{api.Skipped, api.Skipped, api.Done}},
		{three, []int{api.Waiting, api.Waiting, api.Failed}, []int{api.Skipped, api.Ready, api.Failed}},
	} {
		settles(t, c.g, bare(c.l...), bare(c.want...))
		slices.Reverse(c.l)
		slices.Reverse(c.want)
		settles(t, backwards(c.g), bare(c.l...), bare(c.want...))
	}
}

// P9.1: no state changes but one that waits, whatever its need is.
func TestSettleOthersStay(t *testing.T) {
	for _, need := range append(kinds(), unknown()...) {
		for _, kind := range append(kinds(), unknown()...) {
			if kind == api.Waiting || need == api.Waiting {
				continue
			}
			l := []api.State{{State: kind, Token: 3, Until: 5}, {State: need, Token: 4, Until: 6}}
			settles(t, of(target("a", "b"), target("b")), l, l)
			slices.Reverse(l)
			settles(t, of(target("b"), target("a", "b")), l, l)
		}
	}
}

// P9.1: a state that changes has neither a token nor a time; one that goes on waiting stays whole.
func TestSettleTokens(t *testing.T) {
	g := of(target("a", "b"), target("b"))
	waits := api.State{State: api.Waiting, Token: 9, Until: 8}
	for _, need := range append(kinds(), unknown()...) {
		held := api.State{State: need, Token: 3, Until: 5}
		want := []api.State{waits, held}
		switch {
		case need == api.Waiting:
			want[1] = api.State{State: api.Ready}
		case need == api.Done:
			want[0] = api.State{State: api.Ready}
		case slices.Contains(bad(), need):
			want[0] = api.State{State: api.Skipped}
		}
		settles(t, g, []api.State{waits, held}, want)
	}
}

// P9.1: what is skipped skips what needs it in its turn, in whichever order the targets stand; what is done makes only the next one ready.
func TestSettleChain(t *testing.T) {
	g := chain(api.MaxTargets)
	for last := range g.Targets {
		for _, kind := range append(kinds(), unknown()...) {
			l := bare(slices.Repeat([]int{api.Waiting}, api.MaxTargets)...)
			want := slices.Clone(l)
			l[last].State, want[last].State = kind, kind
			if last+1 < len(l) { // what is below it is not held up by it
				want[len(l)-1].State = api.Ready
			} else if kind == api.Waiting {
				want[last].State = api.Ready
			}
			for place := range last {
				if slices.Contains(bad(), kind) {
					want[place].State = api.Skipped
				} else if kind == api.Done && place == last-1 {
					want[place].State = api.Ready
				}
			}
			settles(t, g, l, want)
			slices.Reverse(l)
			slices.Reverse(want)
			settles(t, backwards(g), l, want)
		}
	}
}

// P9.1: a target with as many needs as it may have, of which one alone is not done.
func TestSettleManyNeeds(t *testing.T) {
	g := of(target("all", names(api.MaxNeeds)...))
	for _, name := range names(api.MaxNeeds) {
		g.Targets = append(g.Targets, target(name))
	}
	for place := 1; place <= api.MaxNeeds; place++ {
		for kind, want := range map[int]int{api.Ready: api.Waiting, api.Leased: api.Waiting, api.Done: api.Ready, api.Failed: api.Skipped, api.Skipped: api.Skipped, api.Cancelled: api.Skipped, 7: api.Waiting} {
			l := bare(slices.Repeat([]int{api.Done}, api.MaxNeeds+1)...)
			l[0].State, l[place].State = api.Waiting, kind
			wanted := slices.Clone(l)
			wanted[0].State = want
			settles(t, g, l, wanted)
		}
	}
}

// P9.1: every four states of a graph in which two ways lead from the top to the bottom, in every order of its targets.
func TestSettleEvery(t *testing.T) {
	for order := range 24 {
		targets := []api.Target{target("top", "left", "right"), target("left", "bottom"), target("right", "bottom"), target("bottom")}
		for i := range 3 {
			j := i + order%(4-i)
			order /= 4 - i
			targets[i], targets[j] = targets[j], targets[i]
		}
		for n := range 7 * 7 * 7 * 7 {
			l := bare(n%7, n/7%7, n/49%7, n/343)
			settles(t, of(targets...), l, settledOf(of(targets...), l))
		}
	}
}

// P9.1: graphs and states by chance, against what the document's words ask.
func TestSettleRandom(t *testing.T) {
	r := rand.New(rand.NewPCG(9, 1))
	for range 3000 {
		g := random(r, api.MaxTargets)
		l := randomStates(r, len(g.Targets))
		settles(t, g, l, settledOf(g, l))
	}
}

// P9.1, P9.2: nothing of a graph that is not valid, however many states there are.
func TestRefused(t *testing.T) {
	for i, g := range refused() {
		for _, n := range []int{len(g.Targets), 0, 1, 2, len(g.Targets) + 1} {
			if l := ready.Settle(g, make([]api.State, n)); len(l) != 0 {
				t.Errorf("Settle of graph %d with %d states answers %v", i, n, l)
			}
			if l := ready.Start(g, slices.Repeat([]bool{true}, n)); len(l) != 0 {
				t.Errorf("Start of graph %d with %d fresh answers %v", i, n, l)
			}
		}
		if l := ready.Start(g, nil); len(l) != 0 {
			t.Errorf("Start of graph %d answers %v", i, l)
		}
	}
}

// P9.1: nothing if the states are not as many as the targets.
func TestSettleOtherNumber(t *testing.T) {
	for _, targets := range []int{1, 2, 3, api.MaxTargets} {
		for n := range 2 * api.MaxTargets {
			l := ready.Settle(chain(targets), make([]api.State, n))
			if want := targets; n == want && len(l) != want || n != want && len(l) != 0 {
				t.Errorf("Settle of %d targets with %d states answers %v", targets, n, l)
			}
		}
		if l := ready.Settle(chain(targets), nil); len(l) != 0 {
			t.Errorf("Settle of %d targets without states answers %v", targets, l)
		}
	}
}

// P9.2: what is fresh is done, also if its needs are not; the others wait, or are ready if all of their needs are fresh.
func TestStart(t *testing.T) {
	two := of(target("a", "b"), target("b"))
	line := chain(3)
	for _, c := range []struct {
		g     api.Graph
		fresh []bool
		want  []int
	}{
		{of(target("a")), nil, []int{api.Ready}},
		{of(target("a")), []bool{false}, []int{api.Ready}},
		{of(target("a")), []bool{true}, []int{api.Done}},
		{two, nil, []int{api.Waiting, api.Ready}},
		{two, []bool{}, []int{api.Waiting, api.Ready}},
		{two, []bool{false, false}, []int{api.Waiting, api.Ready}},
		{two, []bool{false, true}, []int{api.Ready, api.Done}},
		{two, []bool{true, false}, []int{api.Done, api.Ready}},
		{two, []bool{true, true}, []int{api.Done, api.Done}},
		{line, []bool{false, true, false}, []int{api.Ready, api.Done, api.Ready}},
		{line, []bool{false, false, true}, []int{api.Waiting, api.Ready, api.Done}},
		{line, []bool{true, false, true}, []int{api.Done, api.Ready, api.Done}},
	} {
		if got := ready.Start(c.g, c.fresh); !slices.Equal(got, bare(c.want...)) {
			t.Errorf("Start of %q with %v answers %v, want %v", c.g, c.fresh, got, bare(c.want...))
		}
	}
}

// P9.2: fresh may tell of fewer targets than there are, or of more.
func TestStartOtherNumber(t *testing.T) {
	g := of(target("a", "b"), target("b", "c"), target("c"), target("d"))
	for n := range 9 {
		want := bare(api.Waiting, api.Waiting, api.Ready, api.Ready)
		for place := range min(n, len(want)) {
			want[place].State = api.Done
		}
		if got := ready.Start(g, slices.Repeat([]bool{true}, n)); !slices.Equal(got, want) {
			t.Errorf("Start with %d fresh answers %v, want %v", n, got, want)
		}
	}
	if got := ready.Start(g, []bool{false, false, false, false, true, true}); !slices.Equal(got, bare(api.Waiting, api.Waiting, api.Ready, api.Ready)) {
		t.Errorf("Start with fresh targets that are not there answers %v", got)
	}
	short := make([]bool, 1, 4)
	copy(short[:4], []bool{false, true, true, true}) // behind the end nothing counts
	if got := ready.Start(g, short); !slices.Equal(got, bare(api.Waiting, api.Waiting, api.Ready, api.Ready)) {
		t.Errorf("Start with more behind the end of fresh answers %v", got)
	}
}

// P9.2: graphs by chance, of which some targets are fresh.
func TestStartRandom(t *testing.T) {
	r := rand.New(rand.NewPCG(9, 2))
	for range 2000 {
		g := random(r, api.MaxTargets)
		fresh, l := make([]bool, len(g.Targets)), make([]api.State, len(g.Targets))
		for place := range fresh {
			if fresh[place] = r.IntN(3) > 0; fresh[place] {
				l[place].State = api.Done
			}
		}
		if got, want := ready.Start(g, fresh), settledOf(g, l); !slices.Equal(got, want) {
			t.Fatalf("Start of %q with %v answers %v, want %v", g, fresh, got, want)
		}
	}
}

// P9.4: settled states stay as they are; when nothing is leased or ready among them, all are final.
func TestSettleAgain(t *testing.T) {
	r := rand.New(rand.NewPCG(9, 3))
	var over int
	for range 5000 {
		g := random(r, 1+r.IntN(api.MaxTargets))
		l := ready.Settle(g, randomStates(r, len(g.Targets)))
		settles(t, g, l, l)
		open := slices.ContainsFunc(l, func(s api.State) bool { return s.State == api.Leased || s.State == api.Ready })
		if ready.Over(l) == open {
			t.Errorf("Over of %v, settled of %q, answers %v", l, g, !open)
		}
		if !open {
			over++
		}
	}
	if over < 200 || over > 4800 {
		t.Errorf("nothing was left to do in %d graphs", over)
	}
}

// P9.4: a graph is built to its end by what is ready alone, with some targets that fail, in no more steps than it has targets.
func TestPlay(t *testing.T) {
	r := rand.New(rand.NewPCG(9, 4))
	for range 500 {
		g := random(r, api.MaxTargets)
		l := ready.Start(g, nil)
		for step := 0; !ready.Over(l); step++ {
			place, there := ready.Next(l)
			if !there || step == len(l) {
				t.Fatalf("of %q nothing is ready behind %d steps, in %v", g, step, l)
			}
			l[place] = api.State{State: []int{api.Done, api.Done, api.Done, api.Failed}[r.IntN(4)]}
			l = ready.Settle(g, l)
			settles(t, g, l, l)
		}
	}
}

// R5: the graph, the states and what is fresh stay as they are, with what is behind the ends of the lists.
func TestSettleArgumentsStay(t *testing.T) {
	targets := []api.Target{{Name: "a", Needs: []string{"c", "b", "behind"}[:2]}, target("b"), target("c"), target("behind", "v")}
	l := bare(api.Waiting, api.Waiting, api.Failed, api.Leased, api.Ready)
	fresh := []bool{false, false, true, true, false}
	told := func() string { return fmt.Sprintf("%q %q %v %v", targets, targets[0].Needs[:3], l, fresh) }
	before := told()
	for _, cut := range []int{3, 2} { // with all of its needs the graph is valid, without one it is not
		ready.Settle(of(targets[:cut]...), l[:cut])
		ready.Start(of(targets[:cut]...), fresh[:cut])
		if after := told(); after != before {
			t.Errorf("the arguments are %s, and were %s", after, before)
		}
	}
}

// R5, R6: results are new memory, and the same each time.
func TestSettleResultsAreNew(t *testing.T) {
	g := of(target("a", "b"), target("b"))
	given := bare(api.Waiting, api.Done)
	for range 3 {
		settled, started := ready.Settle(g, given), ready.Start(g, nil)
		other := ready.Settle(g, given)
		fill(settled, api.State{State: api.Cancelled, Token: 7})
		if !slices.Equal(other, bare(api.Ready, api.Done)) || !slices.Equal(given, bare(api.Waiting, api.Done)) {
			t.Fatalf("Settle answers %v for %v", other, given)
		}
		if !slices.Equal(started, bare(api.Waiting, api.Ready)) {
			t.Fatalf("Start answers %v", started)
		}
		fill(started, api.State{State: api.Cancelled, Token: 7})
	}
	same := bare(api.Done, api.Done)
	fill(ready.Settle(g, same), api.State{})
	if !slices.Equal(same, bare(api.Done, api.Done)) {
		t.Errorf("what Settle leaves unchanged is its argument itself")
	}
}
