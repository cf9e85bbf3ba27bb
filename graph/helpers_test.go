package graph_test

import (
	"fmt"
	"math/rand/v2"
	"strings"
	"testing"

	"dockyard/api"
	"dockyard/graph"
)

// of answers the graph of these targets.
func of(targets ...api.Target) api.Graph { return api.Graph{Targets: targets} }

// target answers one without a command.
func target(name string, needs ...string) api.Target { return api.Target{Name: name, Needs: needs} }

// does answers a target without needs.
func does(command string) api.Target { return api.Target{Name: "a", Command: command} }

// numbered answers the graph of n targets, which are named t0, t1 and so on, and need nothing.
func numbered(n int) api.Graph {
	var g api.Graph
	for _, name := range names(n) {
		g.Targets = append(g.Targets, target(name))
	}
	return g
}

// names answers t0, t1 and so on.
func names(n int) []string {
	var l []string
	for i := range n {
		l = append(l, fmt.Sprint("t", i))
	}
	return l
}

// written answers a graph as a text, in which nil and empty lists are the same.
func written(g api.Graph) string {
	var s strings.Builder
	for _, t := range g.Targets {
		fmt.Fprintf(&s, "%q %q %q;", t.Name, t.Command, t.Needs)
	}
	return s.String()
}

// short cuts what is too long to be read in a report.
func short(s string) string { return s[:min(len(s), 300)] }

func checks(t *testing.T, g api.Graph, want api.Errno) {
	t.Helper()
	if got := graph.Check(g); got != want {
		t.Errorf("Check of %s answers %d, want %d", short(written(g)), got, want)
	}
}

// refused fails the test unless the calls that ask Check answer its error, or nothing.
func refused(t *testing.T, g api.Graph, want api.Errno) {
	t.Helper()
	checks(t, g, want)
	if s, code := graph.Print(g); s != "" || code != want {
		t.Errorf("Print of %s answers %q, %d, want nothing, %d", short(written(g)), s, code, want)
	}
	if l := graph.Order(g); len(l) != 0 {
		t.Errorf("Order of %s answers %v, want nothing", short(written(g)), l)
	}
}

// parses fails the test unless the text is that of the graph, in both directions.
func parses(t *testing.T, s string, g api.Graph) {
	t.Helper()
	if got, code := graph.Print(g); got != s || code != api.OK {
		t.Errorf("Print of %s answers %q, %d, want %q, OK", written(g), got, code, s)
	}
	if got, code := graph.Parse(s); written(got) != written(g) || code != api.OK {
		t.Errorf("Parse of %q answers %s, %d, want %s, OK", s, written(got), code, written(g))
	}
}

// wrong fails the test unless Parse answers an error alone.
func wrong(t *testing.T, s string, want api.Errno) {
	t.Helper()
	if g, code := graph.Parse(s); len(g.Targets) != 0 || code != want {
		t.Errorf("Parse of %q answers %s, %d, want nothing, %d", short(s), short(written(g)), code, want)
	}
}

// text writes a graph, be it valid or not, the way Print does.
func text(g api.Graph) string {
	var s strings.Builder
	for _, t := range g.Targets {
		fmt.Fprintf(&s, "%s:", t.Name)
		for _, need := range t.Needs {
			fmt.Fprintf(&s, " %s", need)
		}
		fmt.Fprintln(&s)
		if t.Command != "" {
			fmt.Fprintf(&s, "\t%s\n", t.Command)
		}
	}
	return s.String()
}

// randomGraph answers one of few targets whose needs are targets; with many needs it has a cycle more often than not.
func randomGraph(r *rand.Rand, targets, needs int) api.Graph {
	g := numbered(targets)
	r.Shuffle(targets, func(i, j int) { g.Targets[i], g.Targets[j] = g.Targets[j], g.Targets[i] })
	all := names(targets)
	for i := range g.Targets {
		r.Shuffle(targets, func(i, j int) { all[i], all[j] = all[j], all[i] })
		g.Targets[i].Needs = append(g.Targets[i].Needs, all[:r.IntN(min(needs, targets)+1)]...)
		g.Targets[i].Command = strings.Repeat("x ", r.IntN(3))
	}
	return g
}

// randomValid answers a graph that is valid: a target needs only those of smaller numbers, which may stand anywhere.
func randomValid(r *rand.Rand, targets int) api.Graph {
	g := randomGraph(r, targets, 0)
	for i := range g.Targets {
		var number int
		fmt.Sscanf(g.Targets[i].Name, "t%d", &number)
		smaller := names(number)
		r.Shuffle(number, func(i, j int) { smaller[i], smaller[j] = smaller[j], smaller[i] })
		g.Targets[i].Needs = smaller[:r.IntN(min(number, api.MaxNeeds)+1)]
	}
	return g
}

// roomy answers a graph with the same targets, of which each list has room for more behind its end.
func roomy(g api.Graph) api.Graph {
	targets := append(make([]api.Target, 0, len(g.Targets)+3), g.Targets...)
	for i, t := range targets {
		targets[i].Needs = append(make([]string, 0, len(t.Needs)+3), t.Needs...)
	}
	return api.Graph{Targets: targets}
}

// whole answers a graph as a text, with what stands in its lists' room.
func whole(g api.Graph) string {
	targets := g.Targets[:cap(g.Targets)]
	s := written(api.Graph{Targets: targets})
	for _, t := range targets {
		s += fmt.Sprintf("%q", t.Needs[:cap(t.Needs)])
	}
	return s
}

// fill overwrites a slice with its capacity: nothing else may change by that.
func fill[T any](l []T, x T) {
	l = l[:cap(l)]
	for i := range l {
		l[i] = x
	}
}
