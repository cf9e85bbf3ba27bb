package stale_test

import (
	"encoding/binary"
	"fmt"
	"hash/fnv"
	"math/rand/v2"
	"slices"
	"strings"

	"dockyard/api"
)

// of answers the graph of these targets.
func of(targets ...api.Target) api.Graph { return api.Graph{Targets: targets} }

func target(name, command string, needs ...string) api.Target {
	return api.Target{Name: name, Command: command, Needs: needs}
}

// hashed answers what the document asks of Key, by the library's hash.
func hashed(command string, needs ...uint64) uint64 {
	b := binary.BigEndian.AppendUint64(nil, uint64(len(command)))
	b = append(b, command...)
	for _, need := range needs {
		b = binary.BigEndian.AppendUint64(b, need)
	}
	h := fnv.New64a()
	h.Write(b)
	return h.Sum64()
}

// named answers the target of a name.
func named(g api.Graph, name string) api.Target {
	return g.Targets[slices.IndexFunc(g.Targets, func(t api.Target) bool { return t.Name == name })]
}

// keyOf answers what the document asks of the key of a target, from its words alone; known holds keys that were asked for before.
func keyOf(g api.Graph, name string, known map[string]uint64) uint64 {
	if key, there := known[name]; there {
		return key
	}
	var needs []uint64
	for _, need := range named(g, name).Needs {
		needs = append(needs, keyOf(g, need, known))
	}
	known[name] = hashed(named(g, name).Command, needs...)
	return known[name]
}

// keysOf answers those of all targets, in their order.
func keysOf(g api.Graph) []uint64 {
	known := map[string]uint64{}
	var keys []uint64
	for _, t := range g.Targets {
		keys = append(keys, keyOf(g, t.Name, known))
	}
	return keys
}

// reach answers the names of a target and of all that it needs, directly or indirectly.
func reach(g api.Graph, name string) map[string]bool {
	reached, work := map[string]bool{}, []string{name}
	for len(work) > 0 {
		name, work = work[0], work[1:]
		if !reached[name] {
			reached[name] = true
			work = append(work, named(g, name).Needs...)
		}
	}
	return reached
}

// among answers a function that tells whether a key is one of these.
func among(keys ...uint64) func(uint64) bool {
	return func(key uint64) bool { return slices.Contains(keys, key) }
}

func anything(uint64) bool { return true }
func nothing(uint64) bool  { return false }

// names answers t0, t1 and so on.
func names(n int) []string {
	var l []string
	for i := range n {
		l = append(l, fmt.Sprint("t", i))
	}
	return l
}

// chain answers the graph of n targets of which each one needs the next one.
func chain(n int) api.Graph {
	var g api.Graph
	for i, name := range names(n) {
		g.Targets = append(g.Targets, target(name, fmt.Sprint("c", i), names(n)[i+1:min(i+2, n)]...))
	}
	return g
}

// fullest answers a graph at all limits: each target needs as many of those before it as it may.
func fullest() api.Graph {
	long := names(api.MaxTargets)
	for i := range long {
		long[i] += strings.Repeat("~", api.MaxName-len(long[i]))
	}
	var g api.Graph
	for i, name := range long {
		command := fmt.Sprint(i, strings.Repeat(" ", api.MaxText))[:api.MaxText]
		g.Targets = append(g.Targets, target(name, command, long[max(0, i-api.MaxNeeds):i]...))
	}
	return g
}

// random answers a valid graph of which some commands are the same: a target needs only those of smaller numbers, which may stand anywhere.
func random(r *rand.Rand) api.Graph {
	all := names(1 + r.IntN(api.MaxTargets))
	var g api.Graph
	for i, name := range all {
		smaller := slices.Clone(all[:i])
		shuffle(r, smaller)
		t := target(name, fmt.Sprint("c", r.IntN(2*len(all))), smaller[:r.IntN(min(i, api.MaxNeeds, 3)+1)]...)
		g.Targets = append(g.Targets, t)
	}
	shuffle(r, g.Targets)
	return g
}

func shuffle[T any](r *rand.Rand, l []T) {
	r.Shuffle(len(l), func(i, j int) { l[i], l[j] = l[j], l[i] })
}

// refused answers graphs that are not valid, some by each of the errors of graph.Check.
func refused() []api.Graph {
	return []api.Graph{
		{}, {Targets: []api.Target{}}, of(target("", "x")), of(target("a", "x"), target("a", "y")), of(target("a:", "x")), of(target("a", "\t")), of(target("a", "\xff")), of(target("a", "x", "b", "b"), target("b", "y")),
		chain(api.MaxTargets + 1), of(target(strings.Repeat("a", api.MaxName+1), "")), of(target("a", strings.Repeat("x", api.MaxText+1))), of(append(chain(api.MaxNeeds+1).Targets, target("a", "x", names(api.MaxNeeds+1)...))...),
		of(target("a", "x", "b")), of(target("b", "y"), target("a", "x", "b", "")),
		of(target("a", "x", "a")), of(target("a", "x", "b"), target("b", "y", "a")), of(target("c", "z"), target("a", "x", "b", "c"), target("b", "y", "a")),
	}
}
