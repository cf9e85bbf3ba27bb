package stale_test

import (
	"fmt"
	"math/rand/v2"
	"slices"
	"testing"

	"dockyard/api"
	"dockyard/stale"
)

// P8.2: a target is fresh if it was built and all of its needs are fresh; what was built is told by the targets' places.
func TestFresh(t *testing.T) {
	two := of(target("a", "x", "b"), target("b", "y"))
	line := of(target("a", "x", "b"), target("b", "y", "c"), target("c", "z"))
	both := of(target("b", "y"), target("a", "x", "b", "c"), target("c", "z"))
	for _, c := range []struct {
		g     api.Graph
		built []int
		want  []bool
	}{
		{two, nil, []bool{false, false}},
		{two, []int{0}, []bool{false, false}},
		{two, []int{1}, []bool{false, true}},
		{two, []int{0, 1}, []bool{true, true}},
		{line, []int{0, 1}, []bool{false, false, false}},
		{line, []int{0, 2}, []bool{false, false, true}},
		{line, []int{1, 2}, []bool{false, true, true}},
		{line, []int{0, 1, 2}, []bool{true, true, true}},
		{both, []int{0, 1}, []bool{true, false, false}},
		{both, []int{1, 2}, []bool{false, false, true}},
		{both, []int{0, 2}, []bool{true, false, true}},
		{both, []int{0, 1, 2}, []bool{true, true, true}},
		{of(target("a", "y"), target("b", "y"), target("c", "z")), []int{0}, []bool{true, true, false}},
	} {
		keys := stale.Keys(c.g)
		var built []uint64
		for _, place := range c.built {
			built = append(built, keys[place])
		}
		if got := stale.Fresh(c.g, among(built...)); !slices.Equal(got, c.want) {
			t.Errorf("Fresh of %q with %d built answers %v, want %v", c.g, c.built, got, c.want)
		}
	}
}

// P8.2: everything or nothing was built, or only keys of something else.
func TestFreshAllOrNone(t *testing.T) {
	for _, g := range []api.Graph{of(target("a", "")), chain(2), chain(api.MaxTargets), fullest()} {
		for want, built := range map[bool]func(uint64) bool{true: anything, false: nothing} {
			if got := stale.Fresh(g, built); !slices.Equal(got, slices.Repeat([]bool{want}, len(g.Targets))) {
				t.Errorf("Fresh of %d targets answers %v, want %v", len(g.Targets), got, want)
			}
		}
		if got := stale.Fresh(g, among(0, 1, hashed("other"))); slices.Contains(got, true) {
			t.Errorf("Fresh of %d targets answers %v with other keys", len(g.Targets), got)
		}
	}
}

// P8.2: all but one target of a long chain were built: those that need it, through however many others, are not fresh.
func TestFreshChain(t *testing.T) {
	g := chain(api.MaxTargets)
	keys := stale.Keys(g)
	for missing := range keys {
		got := stale.Fresh(g, func(key uint64) bool { return key != keys[missing] })
		if want := append(make([]bool, missing+1), slices.Repeat([]bool{true}, len(keys)-missing-1)...); !slices.Equal(got, want) {
			t.Errorf("Fresh without %d answers %v", missing, got)
		}
	}
}

// P8.2: graphs by chance, of which some keys were built.
func TestFreshRandom(t *testing.T) {
	r := rand.New(rand.NewPCG(8, 6))
	for range 1000 {
		g := random(r)
		known := map[string]uint64{}
		built := map[uint64]bool{}
		for _, key := range keysOf(g) {
			built[key] = r.IntN(6) > 0
		}
		var want []bool
		for _, x := range g.Targets {
			fresh := true
			for name := range reach(g, x.Name) {
				fresh = fresh && built[keyOf(g, name, known)]
			}
			want = append(want, fresh)
		}
		if got := stale.Fresh(g, func(key uint64) bool { return built[key] }); !slices.Equal(got, want) {
			t.Fatalf("Fresh of %q answers %v, want %v", g, got, want)
		}
	}
}

// R1: the function that is passed may call the package in its turn.
func TestFreshWithin(t *testing.T) {
	g := of(target("a", "x", "b"), target("b", "y"))
	got := stale.Fresh(g, func(key uint64) bool {
		return slices.Contains(stale.Keys(g), key) && slices.Equal(stale.Fresh(g, nothing), []bool{false, false})
	})
	if !slices.Equal(got, []bool{true, true}) {
		t.Errorf("Fresh answers %v", got)
	}
}

// R5: the graph stays as it is, with what is behind the ends of its lists.
func TestGraphStays(t *testing.T) {
	roomy := func() []api.Target {
		return []api.Target{{Name: "a", Command: "x", Needs: []string{"c", "b", "behind"}[:2]}, target("b", "y"), target("c", "z"), target("behind", "v")}[:3]
	}
	for _, cut := range []int{3, 2} { // with all of its needs the graph is valid, without one it is not
		targets := roomy()
		stale.Keys(of(targets[:cut]...))
		stale.Fresh(of(targets[:cut]...), anything)
		stale.Fresh(of(targets[:cut]...), nothing)
		if got, want := whole(targets), whole(roomy()); got != want {
			t.Errorf("the targets are %s, and were %s", got, want)
		}
	}
}

// whole answers targets as a text, with what stands behind the ends of the lists.
func whole(targets []api.Target) string {
	var s string
	for _, x := range targets[:cap(targets)] {
		s += fmt.Sprintf("%q %q %q;", x.Name, x.Command, x.Needs[:cap(x.Needs)])
	}
	return s
}

// R5: results are new memory each time.
func TestResultsAreNew(t *testing.T) {
	g := of(target("a", "x", "b"), target("b", "y"))
	for range 3 {
		keys, fresh := stale.Keys(g), stale.Fresh(g, anything)
		if got, want := fmt.Sprint(keys, fresh), fmt.Sprint(keysOf(g), []bool{true, true}); got != want {
			t.Fatalf("the answers are %s, want %s", got, want)
		}
		clear(keys[:cap(keys)])
		clear(fresh[:cap(fresh)])
	}
}
