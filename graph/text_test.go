package graph_test

import (
	"math/rand/v2"
	"regexp"
	"slices"
	"strings"
	"testing"

	"dockyard/api"
	"dockyard/graph"
)

// P7.3: texts and their graphs, in both directions.
func TestTexts(t *testing.T) {
	for _, c := range []struct {
		s string
		g api.Graph
	}{
		{"a:\n", of(target("a"))},
		{"a:\n\tcc a\n", of(does("cc a"))},
		{"a: b\n\tcc a\nb:\n", of(api.Target{Name: "a", Command: "cc a", Needs: []string{"b"}}, target("b"))},
		{"b:\na: b\n", of(target("b"), target("a", "b"))},
		{"a: c b\nb: c\nc:\n\tx\n", of(target("a", "c", "b"), target("b", "c"), api.Target{Name: "c", Command: "x"})},
		{"a:\n\t \n", of(does(" "))},
		{"a:\n\t  x: y \n", of(does("  x: y "))},
		{"a:\n\t:\nb:\n\ta: b\n", of(does(":"), api.Target{Name: "b", Command: "a: b"})},
		{"!~: \\n\n\\n:\n\t\\t\n", of(target("!~", "\\n"), api.Target{Name: "\\n", Command: "\\t"})},
	} {
		parses(t, c.s, c.g)
	}
}

// P7.3: what the limits allow can be printed and parsed.
func TestTextsAtLimits(t *testing.T) {
	full := numbered(api.MaxTargets)
	long := func(name string) string { return name + strings.Repeat("~", api.MaxName-len(name)) }
	for i := range full.Targets {
		full.Targets[i] = api.Target{Name: long(full.Targets[i].Name), Command: strings.Repeat(": ", api.MaxText/2)}
		for _, need := range names(min(i, api.MaxNeeds)) {
			full.Targets[i].Needs = append(full.Targets[i].Needs, long(need))
		}
	}
	parses(t, text(full), full)
	wrong(t, text(full)+"a:\n", api.ErrGraphLong)
}

// P7.3: texts without the form of one.
func TestParseForm(t *testing.T) {
	for _, s := range []string{
		"", "\n", "\n\n", "a", "a:", "a\n", ":", ":\n", " ", " \n", "\t", "\t\n", "\tx\n", "\tx", " a:\n", "\ta:\n",
		"a:\n\n", "\na:\n", "a:\n\nb:\n", "a:\nb", "a:\nb:", "a:\n\tx", "a:\n\t", "a:\n\t\n", "a:\n\tx\n\ty\n", "a:\n\tx\n\tx\n", "a:\n\tx\nb:\n\tx\n\ty\n", "a:\n\t\n\tx\n", "a:\n\tx\n\t\n", "\tx\na:\n",
		"a:b\nb:\n", "a:  b\nb:\n", "a: b \nb:\n", "a: \n", "a :\n", "a : b\nb:\n", "a: b  c\nb:\nc:\n", "a:\tb\nb:\n", "a: b\tc\nb:\nc:\n", "a:\t\n", "a\t:\n", "a: b\t\nb:\n",
		"a::\n", "a: b:\nb:\n", "a: :\n", "a:b:\n", "a b:\n", ":a\n", ": a\n", "::\n", "a: b c:\nb:\nc:\n",
		"a:\r\n", "a:\n\tx\r\n", "a:\x00\n", "a: b,c\n\n", "\ufeffa:\n", "a:\u2028", "a:\r",
	} {
		wrong(t, s, api.ErrGraphForm)
	}
}

// P7.3: texts with the form of one, of graphs that Check refuses, each with the error of Check.
func TestParseRefused(t *testing.T) {
	many := func(n int) string { return strings.Repeat("a:\n", n) }
	for _, c := range []struct {
		s    string
		want api.Errno
	}{
		{"a: b\n", api.ErrGraphNeed}, {"a: \u00e9\n", api.ErrGraphNeed}, {"a: " + strings.Repeat("b", 1000) + "\n", api.ErrGraphNeed}, {"a: b\n\tb\n", api.ErrGraphNeed}, {"a: a\r\n", api.ErrGraphNeed},
		{"a: a\n", api.ErrGraphCycle}, {"a: b\nb: a\n\tx\n", api.ErrGraphCycle},
		{"a:\na:\n", api.ErrGraphForm}, {"a: b b\nb:\n", api.ErrGraphForm}, {"\u00e9:\n", api.ErrGraphForm}, {"\x00:\n", api.ErrGraphForm}, {"a:\n\t\tx\n", api.ErrGraphForm}, {"a:\n\t\t\n", api.ErrGraphForm}, {"a:\n\t\xff\n", api.ErrGraphForm},
		{many(api.MaxTargets + 1), api.ErrGraphLong}, {many(api.MaxTargets), api.ErrGraphForm}, {many(10000), api.ErrGraphLong},
		{strings.Repeat("a", api.MaxName+1) + ":\n", api.ErrGraphLong}, {"a:\n\t" + strings.Repeat("x", api.MaxText+1) + "\n", api.ErrGraphLong}, {"a:" + strings.Repeat(" a", api.MaxNeeds+1) + "\n", api.ErrGraphLong},
		{"a: a\n\t" + strings.Repeat("\t", api.MaxText+1) + "\n", api.ErrGraphLong}, {"\xff: b\n" + many(api.MaxTargets), api.ErrGraphLong}, {"a:\nb:\n\t\t\n" + many(api.MaxTargets), api.ErrGraphLong},
	} {
		wrong(t, c.s, c.want)
	}
}

// P7.3: without the form the error is of the form, whatever Check would say of the rest.
func TestParseFormFirst(t *testing.T) {
	long := strings.Repeat("a:\n", api.MaxTargets+1)
	for _, s := range []string{
		long + "a", long + "\n", "\n" + long, "\tx\n" + long, long + "\tx\n\ty\n", long + "a: b \n", long + " a:\n", strings.TrimSuffix(long, "\n"),
		"a: a", "a: b\n\n", "a:" + strings.Repeat(" a", api.MaxNeeds+1), "a:" + strings.Repeat(" a", api.MaxNeeds+1) + " \n",
		strings.Repeat("a", api.MaxName+1) + "\n", "a:\n\t" + strings.Repeat("x", api.MaxText+1),
	} {
		wrong(t, s, api.ErrGraphForm)
	}
}

// The form of a text, as the document tells it.
var formed = regexp.MustCompile(`^(?:[^: \t\n]+:(?: [^: \t\n]+)*\n(?:\t[^\n]+\n)?)*$`)

// A line of a text that has the form: a name and needs, or a command.
var parts = regexp.MustCompile(`(?m)^(?:\t(.+)|([^\t:]+):(.*))$`)

// plainly answers what Parse must, by the form and by what Check says of the graph.
func plainly(s string) (api.Graph, api.Errno) {
	if !formed.MatchString(s) {
		return api.Graph{}, api.ErrGraphForm
	}
	var g api.Graph
	for _, l := range parts.FindAllStringSubmatch(s, -1) {
		if l[1] != "" {
			g.Targets[len(g.Targets)-1].Command = l[1]
		} else {
			g.Targets = append(g.Targets, target(l[2], strings.Split(l[3], " ")[1:]...))
		}
	}
	if code := graph.Check(g); code != api.OK {
		return api.Graph{}, code
	}
	return g, api.OK
}

// asPlainly fails the test unless Parse answers what it must, and what it accepts is printed again.
func asPlainly(t *testing.T, s string) api.Errno {
	t.Helper()
	want, wanted := plainly(s)
	got, code := graph.Parse(s)
	if code != wanted || written(got) != written(want) {
		t.Fatalf("Parse of %q answers %s, %d, want %s, %d", s, written(got), code, written(want), wanted)
	}
	if code != api.OK {
		return code
	}
	if again, e := graph.Print(got); again != s || e != api.OK {
		t.Fatalf("Print of what Parse answers for %q is %q, %d", s, again, e)
	}
	return code
}

// P7.3, P7.4: all short texts of the bytes that count.
func TestParseShortTexts(t *testing.T) {
	const bytes = "ab: \t\n"
	found := map[api.Errno]int{}
	var all func(s string, more int)
	all = func(s string, more int) {
		found[asPlainly(t, s)]++
		for i := 0; i < len(bytes) && more > 0; i++ {
			all(s+bytes[i:i+1], more-1)
		}
	}
	all("", 7)
	for _, code := range []api.Errno{api.OK, api.ErrGraphForm, api.ErrGraphNeed, api.ErrGraphCycle} {
		if found[code] == 0 {
			t.Errorf("no text has come to %d", code)
		}
	}
}

// P7.3, P7.4: what a change of one or two bytes makes of the texts of graphs, of which some have a cycle.
func TestParseChangedTexts(t *testing.T) {
	r := rand.New(rand.NewPCG(7, 3))
	const bytes = "tx019: \t\n\r\x00\xff"
	found := map[api.Errno]int{}
	for range 20000 {
		g := randomValid(r, 1+r.IntN(5))
		if r.IntN(4) == 0 {
			g = randomGraph(r, 1+r.IntN(5), 1)
		}
		s := []byte(text(g))
		for range 1 + r.IntN(2) {
			at := r.IntN(len(s))
			b := bytes[r.IntN(len(bytes))]
			switch r.IntN(3) {
			case 0:
				s[at] = b
			case 1:
				s = slices.Insert(s, at, b)
			case 2:
				s = append(slices.Delete(s, at, at+1), "\n"[:r.IntN(2)]...)
			}
		}
		found[asPlainly(t, string(s))]++
	}
	for _, code := range []api.Errno{api.OK, api.ErrGraphForm, api.ErrGraphNeed, api.ErrGraphCycle} {
		if found[code] < 50 {
			t.Errorf("only %d texts have come to %d", found[code], code)
		}
	}
}

// P7.3, P7.4: a printed graph is parsed as it was; its text is the one that the document says.
func TestTextsRandom(t *testing.T) {
	r := rand.New(rand.NewPCG(7, 4))
	for range 2000 {
		g := randomValid(r, 1+r.IntN(api.MaxTargets))
		for i := range g.Targets {
			command := make([]byte, r.IntN(4))
			for j := range command {
				command[j] = byte(32 + r.IntN(95))
			}
			g.Targets[i].Command = string(command)
		}
		parses(t, text(g), g)
	}
}

// P7.3, P7.4: any bytes are answered, and what is accepted is printed as it was.
func TestParseAnyBytes(t *testing.T) {
	r := rand.New(rand.NewPCG(7, 5))
	for range 20000 {
		b := make([]byte, r.IntN(30))
		for i := range b {
			b[i] = byte(r.Uint32())
			if r.IntN(2) == 0 {
				b[i] = "a: \t\n"[r.IntN(5)]
			}
		}
		asPlainly(t, string(b))
	}
}
