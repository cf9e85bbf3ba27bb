package stale_test

import (
	"fmt"
	"math/rand/v2"
	"slices"
	"testing"

	"dockyard/api"
	"dockyard/stale"
)

// P8.2: each target has the key of its command and of its needs' keys, in the order of the needs, wherever these stand.
func TestKeys(t *testing.T) {
	y, z := hashed("y"), hashed("z")
	for _, c := range []struct {
		g    api.Graph
		want []uint64
	}{
		{of(target("a", "")), []uint64{12161962213042174405}},
		{of(target("a", "x", "b"), target("b", "y")), []uint64{hashed("x", y), y}},
		{of(target("b", "y"), target("a", "x", "b")), []uint64{y, hashed("x", y)}},
		{of(target("a", "x", "b", "c"), target("b", "y"), target("c", "z")), []uint64{hashed("x", y, z), y, z}},
		{of(target("a", "x", "c", "b"), target("b", "y"), target("c", "z")), []uint64{hashed("x", z, y), y, z}},
		{of(target("a", "x", "b"), target("b", "y", "c"), target("c", "z")), []uint64{hashed("x", hashed("y", z)), hashed("y", z), z}},
		{of(target("a", "x", "b", "c"), target("b", "x", "d"), target("c", "x", "d"), target("d", "x")), []uint64{hashed("x", hashed("x", hashed("x")), hashed("x", hashed("x"))), hashed("x", hashed("x")), hashed("x", hashed("x")), hashed("x")}},
		{of(target("a", "y"), target("b", "y"), target("c", "x", "a", "b")), []uint64{y, y, hashed("x", y, y)}},
		{chain(api.MaxTargets), keysOf(chain(api.MaxTargets))},
		{fullest(), keysOf(fullest())},
	} {
		if got := stale.Keys(c.g); !slices.Equal(got, c.want) {
			t.Errorf("Keys of %q answers %d, want %d", c.g, got, c.want)
		}
	}
}

// P8.2: graphs by chance, against keys that go by names alone.
func TestKeysRandom(t *testing.T) {
	r := rand.New(rand.NewPCG(8, 2))
	for range 1000 {
		g := random(r)
		if got, want := stale.Keys(g), keysOf(g); !slices.Equal(got, want) {
			t.Fatalf("Keys of %q answers %d, want %d", g, got, want)
		}
	}
}

// P8.2: nothing of a graph that is not valid.
func TestRefused(t *testing.T) {
	for i, g := range refused() {
		if keys := stale.Keys(g); len(keys) != 0 {
			t.Errorf("Keys of graph %d answers %d", i, keys)
		}
		for _, built := range []func(uint64) bool{anything, nothing} {
			if fresh := stale.Fresh(g, built); len(fresh) != 0 {
				t.Errorf("Fresh of graph %d answers %v", i, fresh)
			}
		}
	}
}

// P8.3: neither other names nor another order of the targets change a key.
func TestKeysWithoutNames(t *testing.T) {
	r := rand.New(rand.NewPCG(8, 3))
	for range 500 {
		g := random(r)
		keys := map[string]uint64{}
		for place, key := range stale.Keys(g) {
			keys[g.Targets[place].Name] = key
		}
		other, former := renamed(r, g)
		got := stale.Keys(other)
		if len(got) != len(keys) {
			t.Fatalf("Keys of %q answers %d", other, got)
		}
		for place, key := range got {
			if want := keys[former[other.Targets[place].Name]]; key != want {
				t.Fatalf("Keys of %q answers %d at %d, want %d as of %q", other, key, place, want, g)
			}
		}
	}
}

// renamed answers the graph with other names and in another order, and by each new name the one before.
func renamed(r *rand.Rand, g api.Graph) (api.Graph, map[string]string) {
	later, former := map[string]string{}, map[string]string{}
	for i, n := range r.Perm(len(g.Targets)) {
		name := fmt.Sprint("other", n)
		later[g.Targets[i].Name], former[name] = name, g.Targets[i].Name
	}
	var other api.Graph
	for _, t := range g.Targets {
		changed := target(later[t.Name], t.Command)
		for _, need := range t.Needs {
			changed.Needs = append(changed.Needs, later[need])
		}
		other.Targets = append(other.Targets, changed)
	}
	shuffle(r, other.Targets)
	return other, former
}

// P8.3: another command changes the keys of its target and of those that need it, directly or indirectly, and no others.
func TestKeysByCommands(t *testing.T) {
	r := rand.New(rand.NewPCG(8, 4))
	for range 300 {
		g := random(r)
		before := stale.Keys(g)
		at := r.IntN(len(g.Targets))
		g.Targets[at].Command += "!"
		after := stale.Keys(g)
		for place, x := range g.Targets {
			needed := reach(g, x.Name)[g.Targets[at].Name]
			if changed := before[place] != after[place]; changed != needed {
				t.Fatalf("with another command of %s, that the key of %s changes is %v, want %v, in %q", g.Targets[at].Name, x.Name, changed, needed, g)
			}
		}
	}
}

// P8.3: a target has the same key in a graph without all that it does not need.
func TestKeysAlone(t *testing.T) {
	r := rand.New(rand.NewPCG(8, 5))
	for range 300 {
		g := random(r)
		keys := stale.Keys(g)
		at := r.IntN(len(g.Targets))
		reached := reach(g, g.Targets[at].Name)
		part := of(slices.DeleteFunc(slices.Clone(g.Targets), func(x api.Target) bool { return !reached[x.Name] })...)
		place := slices.IndexFunc(part.Targets, func(x api.Target) bool { return x.Name == g.Targets[at].Name })
		if got := stale.Keys(part); got[place] != keys[at] {
			t.Fatalf("Keys of %q answers %d at %d, want %d as of %q", part, got, place, keys[at], g)
		}
	}
}
