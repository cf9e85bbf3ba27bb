package graph_test

import (
	"fmt"
	"math"
	"math/rand/v2"
	"slices"
	"testing"

	"dockyard/api"
	"dockyard/graph"
)

// P7.2: the first target of a name, in valid graphs and in others.
func TestFind(t *testing.T) {
	g := of(target("b", "x"), target("a"), target("b"), target(""), target("\xff"), target("a"), does("cmd"), target(""))
	for _, c := range []struct {
		name  string
		place int
		there bool
	}{
		{"b", 0, true}, {"a", 1, true}, {"", 3, true}, {"\xff", 4, true},
		{"x", 0, false}, {"cmd", 0, false}, {"B", 0, false}, {"b ", 0, false}, {"bb", 0, false}, {"\xfe", 0, false}, {"\ufffd", 0, false},
	} {
		if place, there := graph.Find(g, c.name); place != c.place || there != c.there {
			t.Errorf("Find of %q answers %d, %v, want %d, %v", c.name, place, there, c.place, c.there)
		}
	}
	if place, there := graph.Find(api.Graph{}, ""); place != 0 || there {
		t.Errorf("Find in no targets answers %d, %v", place, there)
	}
	for i, name := range names(100) {
		if place, there := graph.Find(numbered(100), name); place != i || !there {
			t.Errorf("Find of %s answers %d, %v", name, place, there)
		}
	}
}

// P7.2: needs by their places, in their order; those that are no targets are left out.
func TestNeeds(t *testing.T) {
	g := of(
		target("a", "c", "b"), target("b"), target("c", "b", "none", "a"), target("d", "none"), target("a", "a", "d", "a"), target("", "", "c", ""), target("e", "e"),
	)
	for place, want := range [][]int{{2, 1}, {}, {1, 0}, {}, {0, 3, 0}, {5, 2, 5}, {6}} {
		if got := graph.Needs(g, place); !slices.Equal(got, want) {
			t.Errorf("Needs of %d answers %v, want %v", place, got, want)
		}
	}
	many := append(numbered(100).Targets, target("all", names(100)...))
	if l := graph.Needs(of(many...), 100); len(l) != 100 || l[99] != 99 {
		t.Errorf("Needs beyond the limits answers %v", l)
	}
}

// P7.2: places where there is no target.
func TestNeedsNowhere(t *testing.T) {
	g := of(target("a", "b"), target("b", "a"))
	for _, place := range []int{-1, 2, 3, math.MaxInt, math.MinInt, 1 << 32} {
		if l := graph.Needs(g, place); len(l) != 0 {
			t.Errorf("Needs of %d answers %v", place, l)
		}
	}
	if l := graph.Needs(api.Graph{}, 0); len(l) != 0 {
		t.Errorf("Needs of no targets answers %v", l)
	}
}

// P7.2: the smallest place comes next whose needs are listed, also if it could not come before.
func TestOrder(t *testing.T) {
	for _, c := range []struct {
		g    api.Graph
		want []int
	}{
		{of(target("a")), []int{0}},
		{of(target("a"), target("b"), target("c")), []int{0, 1, 2}},
		{of(target("a", "b"), target("b")), []int{1, 0}},
		{of(target("a", "b"), target("b"), target("c")), []int{1, 0, 2}},
		{of(target("a", "c"), target("b"), target("c"), target("d")), []int{1, 2, 0, 3}},
		{of(target("a", "c", "b"), target("b", "d"), target("c"), target("d")), []int{2, 3, 1, 0}},
		{of(target("a", "d"), target("b", "c"), target("c"), target("d")), []int{2, 1, 3, 0}},
		{of(target("a", "b"), target("b", "c"), target("c", "d"), target("d")), []int{3, 2, 1, 0}},
		{of(target("z"), target("y", "z"), target("x", "y"), target("w")), []int{0, 1, 2, 3}},
	} {
		if got := graph.Order(c.g); !slices.Equal(got, c.want) {
			t.Errorf("Order of %s answers %v, want %v", written(c.g), got, c.want)
		}
	}
}

// inOrder answers what the document asks of Order, from its words alone.
func inOrder(g api.Graph) []int {
	var order []int
	listed := map[string]bool{}
	for len(order) < len(g.Targets) {
		order = append(order, slices.IndexFunc(g.Targets, func(t api.Target) bool {
			return !listed[t.Name] && !slices.ContainsFunc(t.Needs, func(need string) bool { return !listed[need] })
		}))
		listed[g.Targets[order[len(order)-1]].Name] = true
	}
	return order
}

// P7.2, P7.4: random valid graphs: the places are all of them, in the right order, and each one behind its needs.
func TestOrderRandom(t *testing.T) {
	r := rand.New(rand.NewPCG(7, 2))
	for range 2000 {
		g := randomValid(r, 1+r.IntN(api.MaxTargets))
		order := graph.Order(g)
		if want := inOrder(g); !slices.Equal(order, want) {
			t.Fatalf("Order of %s answers %v, want %v", written(g), order, want)
		}
		for at, place := range order {
			for _, need := range graph.Needs(g, place) {
				if !slices.Contains(order[:at], need) {
					t.Fatalf("Order of %s answers %v, where %d is not ahead of %d", written(g), order, need, place)
				}
			}
		}
	}
}

// R5: the arguments stay as they are, with what is behind the ends of their lists.
func TestArgumentsStay(t *testing.T) {
	for _, g := range []api.Graph{
		of(target("a", "c", "b"), does("cc"), target("c")), of(target("a", "c", "b"), api.Target{Name: "b", Command: "cc"}, target("c")), of(target("c", "c")), {},
	} {
		g = roomy(g)
		before := whole(g)
		graph.Check(g)
		graph.Find(g, "c")
		graph.Needs(g, 0)
		graph.Order(g)
		graph.Print(g)
		if after := whole(g); after != before {
			t.Errorf("the graph was %s, and is %s", before, after)
		}
	}
}

// R5: results are new memory each time, and no two lists of one share any.
func TestResultsAreNew(t *testing.T) {
	g := of(target("a", "b", "c"), target("b", "c"), target("c"))
	for range 3 {
		needs, order := graph.Needs(g, 0), graph.Order(g)
		parsed, _ := graph.Parse("a: b c\nb: c\nc:\n")
		if got := fmt.Sprint(needs, order) + written(parsed); got != "[1 2] [2 1 0]"+written(g) {
			t.Fatalf("the answers are %s", got)
		}
		fill(needs, 9)
		fill(order, 9)
		fill(parsed.Targets[0].Needs, "x")
		if written(of(parsed.Targets[1:]...)) != written(of(g.Targets[1:]...)) {
			t.Fatalf("the other targets are %s", written(parsed))
		}
		fill(parsed.Targets[1].Needs, "x")
		fill(parsed.Targets, target("x"))
	}
}
