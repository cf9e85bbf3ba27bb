package graph_test

import (
	"math/rand/v2"
	"strings"
	"testing"

	"dockyard/api"
)

// P7.1: valid graphs, at the limits too.
func TestCheckValid(t *testing.T) {
	full := numbered(api.MaxTargets)
	for i := range full.Targets {
		full.Targets[i].Command = strings.Repeat("~", api.MaxText)
		full.Targets[i].Needs = names(min(i, api.MaxNeeds))
	}
	for _, g := range []api.Graph{
		of(target("a")),
		of(does("cc a")),
		of(target("a", "b"), target("b")),
		of(target("b"), target("a", "b")),
		of(target("a", "b", "c", "d"), target("b", "d"), target("c", "d"), target("d")),
		of(target("a"), target("A"), target("aa"), target("a.")),
		of(api.Target{Name: "a", Command: "same"}, api.Target{Name: "b", Command: "same"}),
		of(api.Target{Name: "a", Needs: []string{}}),
		of(target("a", "c"), target("b", "c"), target("c")),
		numbered(api.MaxTargets),
		of(target(strings.Repeat("a", api.MaxName))),
		of(does(strings.Repeat(" ", api.MaxText))),
		of(append(numbered(api.MaxNeeds).Targets, target("a", names(api.MaxNeeds)...))...),
		full,
	} {
		checks(t, g, api.OK)
	}
}

// P7.1: more than a limit allows, of each limit, in the first target and in the last.
func TestCheckLong(t *testing.T) {
	refused(t, numbered(api.MaxTargets+1), api.ErrGraphLong)
	refused(t, numbered(1000), api.ErrGraphLong)
	refused(t, api.Graph{Targets: make([]api.Target, api.MaxTargets+1)}, api.ErrGraphLong)
	for _, long := range []api.Target{
		target(strings.Repeat("a", api.MaxName+1)),
		does(strings.Repeat("x", api.MaxText+1)),
		target("a", names(api.MaxNeeds+1)...),
		target(strings.Repeat("a", 100000)), does(strings.Repeat("x", 100000)), target("a", names(1000)...),
	} {
		refused(t, of(append(numbered(api.MaxNeeds+1).Targets, long)...), api.ErrGraphLong)
		refused(t, of(append([]api.Target{long}, numbered(api.MaxNeeds+1).Targets...)...), api.ErrGraphLong)
	}
}

// P7.1: bytes are counted, not what they mean.
func TestCheckLongBytes(t *testing.T) {
	two, three := "\u00e9", "\u20ac"
	refused(t, of(target(strings.Repeat(two, api.MaxName/2))), api.ErrGraphForm)
	refused(t, of(target(strings.Repeat(two, api.MaxName/2+1))), api.ErrGraphLong)
	refused(t, of(does(strings.Repeat(three, api.MaxText/3))), api.ErrGraphForm)
	refused(t, of(does(strings.Repeat(three, api.MaxText/3+1))), api.ErrGraphLong)
}

// P7.1: no target, names and commands that are not right.
func TestCheckForm(t *testing.T) {
	for _, g := range []api.Graph{
		{}, {Targets: []api.Target{}},
		of(target("")), of(api.Target{Command: "cc"}), of(target("a"), target("")),
		of(target(":")), of(target("a:")), of(target(":a")), of(target("a b")), of(target(" a")), of(target("a ")), of(target("a\n")), of(target("\ta")),
		of(target("\u00e9")), of(target("a\u20ac")), of(target("\U0001f6a2")), of(target("\xff")), of(target("a\xc3")), of(target("\u0161")), of(target("\U00010061")),
		of(does("\t")), of(does("cc\n")), of(does("\u00e9")), of(does("cc \xff")), of(does("\xc3")), of(does("\u0161")),
		of(target("a"), target("a")), of(target("a"), target("b"), target("a")), of(target("b"), target("a"), does("cc")),
		of(target("a", "b", "b"), target("b")), of(target("a", "b", "c", "b"), target("b"), target("c")), of(target("b"), target("c"), target("a", "b", "c", "c")),
	} {
		refused(t, g, api.ErrGraphForm)
	}
}

// P7.1: every byte, in a name and in a command, alone and among others.
func TestCheckBytes(t *testing.T) {
	for b := range 256 {
		code := func(right bool) api.Errno {
			if right {
				return api.OK
			}
			return api.ErrGraphForm
		}
		one := string([]byte{byte(b)})
		for _, s := range []string{one, "x" + one, one + "x", "x" + one + "x"} {
			checks(t, of(target(s)), code(b >= 33 && b <= 126 && b != ':'))
			checks(t, of(target("first"), target(s)), code(b >= 33 && b <= 126 && b != ':'))
			checks(t, of(does(s)), code(b >= 32 && b <= 126))
			checks(t, of(target("first"), does(s)), code(b >= 32 && b <= 126))
		}
	}
}

// P7.1: needs that are no targets. What a need is made of, and how long it is, makes no other error.
func TestCheckNeed(t *testing.T) {
	for _, need := range []string{"b", "", ":", " a", "a ", "aa", "A", "\xff", "\n", strings.Repeat("a", api.MaxName+1), strings.Repeat("b", 100000)} {
		refused(t, of(target("a", need)), api.ErrGraphNeed)
		refused(t, of(target("c"), target("a", "c", need)), api.ErrGraphNeed)
		refused(t, of(target("a", need, "c"), target("c")), api.ErrGraphNeed)
		refused(t, of(target("a", need, "c", need), target("c")), api.ErrGraphForm)
	}
	refused(t, of(api.Target{Name: "a", Command: "b", Needs: []string{"b"}}), api.ErrGraphNeed)
}

// ring answers targets each of which needs the one behind it, and the last one the first.
func ring(n int) []api.Target {
	targets := numbered(n).Targets
	for i := range targets {
		targets[i].Needs = []string{targets[(i+1)%n].Name}
	}
	return targets
}

// P7.1: cycles of every length, alone, and with targets on either side that are on none.
func TestCheckCycle(t *testing.T) {
	for n := 1; n <= api.MaxTargets; n++ {
		l := ring(n)
		refused(t, of(l...), api.ErrGraphCycle)
		l[n-1].Needs = nil
		checks(t, of(l...), api.OK)
		if n+3 > api.MaxTargets {
			continue
		}
		l = ring(n)
		l[n/2].Needs = append(l[n/2].Needs, "below")
		refused(t, of(append(l, target("below"), target("above", "t0"), target("aside"))...), api.ErrGraphCycle)
		refused(t, of(append([]api.Target{target("below"), target("above", "t0"), target("aside")}, l...)...), api.ErrGraphCycle)
	}
	refused(t, of(target("a"), target("b"), target("c", "b", "c")), api.ErrGraphCycle)
	refused(t, of(target("a", "b"), target("b", "a"), target("c", "d"), target("d", "c")), api.ErrGraphCycle)
}

// P7.1: of several errors the first one is answered, wherever in the graph they are.
func TestCheckFirstError(t *testing.T) {
	long := does(strings.Repeat("\n", api.MaxText+1))
	long.Name = "long"
	form, need, cycle := target("f f"), target("n", "none"), target("c", "c")
	for _, c := range []struct {
		targets []api.Target
		want    api.Errno
	}{
		{[]api.Target{cycle, need, form, long}, api.ErrGraphLong},
		{[]api.Target{cycle, form, long}, api.ErrGraphLong},
		{[]api.Target{need, long}, api.ErrGraphLong},
		{[]api.Target{cycle, long}, api.ErrGraphLong},
		{[]api.Target{cycle, need, form}, api.ErrGraphForm},
		{[]api.Target{need, form}, api.ErrGraphForm},
		{[]api.Target{cycle, form}, api.ErrGraphForm},
		{[]api.Target{cycle, need}, api.ErrGraphNeed},
		{[]api.Target{target("c", "c", "none")}, api.ErrGraphNeed},
		{[]api.Target{target("c", "c", "c")}, api.ErrGraphForm},
		{[]api.Target{target("c", "none", "none")}, api.ErrGraphForm},
		{[]api.Target{target("c", "c"), target("c")}, api.ErrGraphForm},
		{[]api.Target{target("", make([]string, api.MaxNeeds+1)...)}, api.ErrGraphLong},
		{[]api.Target{target("", make([]string, api.MaxNeeds)...)}, api.ErrGraphForm},
	} {
		refused(t, of(c.targets...), c.want)
		for i, j := 0, len(c.targets)-1; i < j; i, j = i+1, j-1 {
			c.targets[i], c.targets[j] = c.targets[j], c.targets[i]
		}
		refused(t, of(c.targets...), c.want)
	}
}

// cyclic answers whether a target needs itself, by what each of them reaches in ever more steps.
func cyclic(g api.Graph) bool {
	reached := map[[2]string]bool{}
	for _, t := range g.Targets {
		for _, need := range t.Needs {
			reached[[2]string{t.Name, need}] = true
		}
	}
	for _, through := range g.Targets {
		for _, from := range g.Targets {
			for _, to := range g.Targets {
				if reached[[2]string{from.Name, through.Name}] && reached[[2]string{through.Name, to.Name}] {
					reached[[2]string{from.Name, to.Name}] = true
				}
			}
		}
	}
	for _, t := range g.Targets {
		if reached[[2]string{t.Name, t.Name}] {
			return true
		}
	}
	return false
}

// P7.1: random graphs that can be wrong by a cycle alone.
func TestCheckRandom(t *testing.T) {
	r := rand.New(rand.NewPCG(7, 1))
	var good, bad int
	for range 5000 {
		g := randomGraph(r, 1+r.IntN(8), 1+r.IntN(2))
		if cyclic(g) {
			bad++
			refused(t, g, api.ErrGraphCycle)
		} else {
			good++
			checks(t, g, api.OK)
		}
	}
	if good < 500 || bad < 500 {
		t.Errorf("%d graphs were valid, and %d were not", good, bad)
	}
	for range 500 {
		checks(t, randomValid(r, 1+r.IntN(api.MaxTargets)), api.OK)
	}
}
