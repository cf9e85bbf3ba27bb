package ready_test

import (
	"fmt"
	"math"
	"math/rand/v2"
	"slices"
	"strings"
	"testing"

	"dockyard/api"
	"dockyard/ready"
)

// of answers the graph of these targets.
func of(targets ...api.Target) api.Graph { return api.Graph{Targets: targets} }

func target(name string, needs ...string) api.Target { return api.Target{Name: name, Needs: needs} }

// bare answers states without a lease.
func bare(kinds ...int) []api.State {
	var l []api.State
	for _, kind := range kinds {
		l = append(l, api.State{State: kind})
	}
	return l
}

// kinds answers the seven kinds of states.
func kinds() []int {
	return []int{api.Waiting, api.Ready, api.Leased, api.Done, api.Failed, api.Skipped, api.Cancelled}
}

// unknown answers numbers that are no kind of states.
func unknown() []int { return []int{-1, 7, 8, 256 + api.Done, math.MaxInt, math.MinInt} }

// bad answers the kinds by which a need makes its targets be skipped.
func bad() []int { return []int{api.Failed, api.Skipped, api.Cancelled} }

// names answers t0, t1 and so on.
func names(n int) []string {
	var l []string
	for i := range n {
		l = append(l, fmt.Sprint("t", i))
	}
	return l
}

// chain answers the graph of n targets of which each one needs the next one.
func chain(n int) api.Graph {
	var g api.Graph
	for i, name := range names(n) {
		g.Targets = append(g.Targets, target(name, names(n)[i+1:min(i+2, n)]...))
	}
	return g
}

// backwards answers the graph with its targets in the opposite order.
func backwards(g api.Graph) api.Graph {
	targets := slices.Clone(g.Targets)
	slices.Reverse(targets)
	return of(targets...)
}

// named answers the place of the target of a name.
func named(g api.Graph, name string) int {
	return slices.IndexFunc(g.Targets, func(t api.Target) bool { return t.Name == name })
}

// settledOf answers what the document asks of Settle, from its words alone, going by names from each target to what it needs.
func settledOf(g api.Graph, l []api.State) []api.State {
	known := map[string]api.State{}
	var settle func(name string) api.State
	settle = func(name string) api.State {
		if s, there := known[name]; there {
			return s
		}
		place := named(g, name)
		s, skipped, all := l[place], false, true
		for _, need := range g.Targets[place].Needs {
			kind := settle(need).State
			skipped = skipped || slices.Contains(bad(), kind)
			all = all && kind == api.Done
		}
		if s.State == api.Waiting && skipped {
			s = api.State{State: api.Skipped}
		} else if s.State == api.Waiting && all {
			s = api.State{State: api.Ready}
		}
		known[name] = s
		return s
	}
	var settled []api.State
	for _, t := range g.Targets {
		settled = append(settled, settle(t.Name))
	}
	return settled
}

// settles fails the test unless Settle answers these states, and leaves its argument as it was.
func settles(t *testing.T, g api.Graph, l, want []api.State) {
	t.Helper()
	given := slices.Clone(l)
	if got := ready.Settle(g, given); !slices.Equal(got, want) {
		t.Errorf("Settle of %q with %v answers %v, want %v", g, l, got, want)
	}
	if !slices.Equal(given, l) {
		t.Errorf("Settle of %q with %v has changed them to %v", g, l, given)
	}
}

// random answers a valid graph: a target needs only those of smaller numbers, which may stand anywhere.
func random(r *rand.Rand, most int) api.Graph {
	all := names(1 + r.IntN(most))
	var g api.Graph
	for i, name := range all {
		smaller := slices.Clone(all[:i])
		shuffle(r, smaller)
		g.Targets = append(g.Targets, target(name, smaller[:r.IntN(min(i, api.MaxNeeds, 3)+1)]...))
	}
	shuffle(r, g.Targets)
	return g
}

func shuffle[T any](r *rand.Rand, l []T) {
	r.Shuffle(len(l), func(i, j int) { l[i], l[j] = l[j], l[i] })
}

// randomStates answers n states of the seven kinds, more than half of them waiting or done; any of them may hold a token.
func randomStates(r *rand.Rand, n int) []api.State {
	var l []api.State
	for range n {
		s := api.State{State: []int{api.Waiting, api.Waiting, api.Waiting, api.Done, api.Done, r.IntN(7), r.IntN(7)}[r.IntN(7)]}
		if r.IntN(2) == 0 {
			s.Token, s.Until = r.Uint64N(9), r.Uint64N(9)
		}
		l = append(l, s)
	}
	return l
}

// refused answers graphs that are not valid, some by each of the errors of graph.Check.
func refused() []api.Graph {
	return []api.Graph{
		{}, {Targets: []api.Target{}}, of(target("")), of(target("a"), target("a")), of(target("a:")), of(target("a"), api.Target{Name: "b", Command: "\t"}), of(target("a", "b", "b"), target("b")),
		chain(api.MaxTargets + 1), chain(1000), of(target(strings.Repeat("a", api.MaxName+1))), of(append(chain(api.MaxNeeds+1).Targets, target("a", names(api.MaxNeeds+1)...))...),
		of(target("a", "b")), of(target("b"), target("a", "b", "")),
		of(target("a", "a")), of(target("a", "b"), target("b", "a")), of(target("c"), target("a", "b", "c"), target("b", "a")),
	}
}

// fill overwrites a slice with its capacity: nothing else may change by that.
func fill(l []api.State, s api.State) {
	l = l[:cap(l)]
	for i := range l {
		l[i] = s
	}
}
