package image_test

import (
	"bytes"
	"math"
	"slices"
	"strings"
	"testing"

	"dockyard/api"
	"dockyard/image"
	"dockyard/queue"
)

// P13.1, P13.2: the chapter's table of examples.
func TestExamples(t *testing.T) {
	is(t, "a new queue", queue.New().Dump(), bytesOf(t, long("00")+long("01")+long("01")+"00 00 00"))
	refused(t, "the zero image", api.Image{})
	none(t, "no bytes", nil)
	none(t, "no bytes", []byte{})
}

// P13.1: the bytes of an image with something of everything in it, written out.
func TestBytes(t *testing.T) {
	i := api.Image{
		Now: 0x0102030405060708, NextGraph: 0x12, NextToken: 0x13,
		Sessions: []api.SessionRow{
			{Id: 0x21},
			{Id: 0x22, Seq: 0x23, Answer: api.Answer{Code: 0x24, Id: 0x25, Token: 0x26, Until: 0x27, Target: "hull", Command: "cc"}},
		},
		Graphs: []api.GraphRow{
			{Id: 0x10, Graph: pair(), States: []api.State{leased(0x11, math.MaxUint64), {State: api.Done}}},
			{Id: 0x11, Graph: single(), States: states(api.Cancelled)},
		},
		Built: []uint64{0x31, 0, 0x8000000000000032},
	}
	zero := long("00")
	is(t, "something of everything", i, bytesOf(t, "01 02 03 04 05 06 07 08"+long("12")+long("13")+
		"02"+
		long("21")+zero+"00"+zero+zero+zero+"00 00"+
		long("22")+long("23")+"24"+long("25")+long("26")+long("27")+"04 68 75 6c 6c 02 63 63"+
		"02"+
		long("10")+"02 01 61 04 63 63 20 61 01 01 62 01 62 00 00"+
		"02"+long("11")+"ff ff ff ff ff ff ff ff 03"+zero+zero+
		long("11")+"01 01 61 04 63 63 20 61 00"+
		"06"+zero+zero+
		"03"+long("31")+zero+"80 00 00 00 00 00 00 32"))
}

// withAnswer answers an image with one session, whose last command was answered that.
func withAnswer(a api.Answer) api.Image {
	return api.Image{NextGraph: 1, NextToken: 1, Sessions: []api.SessionRow{{Id: 1, Seq: 1, Answer: a}}}
}

// P13.1: the edges of what is written.
func TestEdges(t *testing.T) {
	first := queue.New().Dump()
	for what, turn := range map[string]func(*api.Image){
		"something of everything":   func(i *api.Image) {},
		"no sessions":               func(i *api.Image) { i.Sessions = nil },
		"no graphs":                 func(i *api.Image) { i.Graphs = nil },
		"no keys":                   func(i *api.Image) { i.Built = nil },
		"empty lists":               func(i *api.Image) { i.Sessions, i.Graphs, i.Built = []api.SessionRow{}, []api.GraphRow{}, []uint64{} },
		"empty needs":               func(i *api.Image) { i.Graphs[2].Graph.Targets[0].Needs = []string{} },
		"a new queue":               func(i *api.Image) { *i = first },
		"sessions alone":            func(i *api.Image) { i.Graphs, i.Built = nil, nil },
		"graphs alone":              func(i *api.Image) { i.Sessions, i.Built = nil, nil },
		"keys alone":                func(i *api.Image) { i.Sessions, i.Graphs = nil, nil },
		"as many sessions":          func(i *api.Image) { i.Sessions = sessions(api.MaxSessions) },
		"as many graphs":            func(i *api.Image) { i.Graphs, i.NextGraph = graphs(api.MaxGraphs), api.MaxGraphs+1 },
		"252 keys":                  func(i *api.Image) { i.Built = keys(252) },
		"253 keys":                  func(i *api.Image) { i.Built = keys(253) },
		"as many keys":              func(i *api.Image) { i.Built = keys(api.MaxBuilt) },
		"as many of all":            func(i *api.Image) { *i = largest() },
		"the greatest numbers":      func(i *api.Image) { *i = api.Image{Now: most, NextGraph: most, NextToken: most} },
		"a zero answer":             func(i *api.Image) { *i = withAnswer(api.Answer{}) },
		"the code 1":                func(i *api.Image) { *i = withAnswer(api.Answer{Code: 1}) },
		"the code 254":              func(i *api.Image) { *i = withAnswer(api.Answer{Code: 254}) },
		"the code 255":              func(i *api.Image) { *i = withAnswer(api.Answer{Code: 255}) },
		"numbers of an answer":      func(i *api.Image) { *i = withAnswer(api.Answer{Id: 1 << 56, Token: most, Until: 1 << 32}) },
		"the longest target":        func(i *api.Image) { *i = withAnswer(api.Answer{Target: strings.Repeat("t", api.MaxName)}) },
		"a command of 252 bytes":    func(i *api.Image) { *i = withAnswer(api.Answer{Command: strings.Repeat("c", 252)}) },
		"a command of 253 bytes":    func(i *api.Image) { *i = withAnswer(api.Answer{Command: strings.Repeat("c", 253)}) },
		"the longest command":       func(i *api.Image) { *i = withAnswer(api.Answer{Command: strings.Repeat("c", api.MaxText)}) },
		"the longest answer":        func(i *api.Image) { *i = withAnswer(longest()) },
		"any bytes":                 func(i *api.Image) { *i = withAnswer(api.Answer{Target: "\x00\n\xff", Command: "\xc3\x28 :"}) },
		"a target of 16 letters":    func(i *api.Image) { *i = withAnswer(api.Answer{Target: strings.Repeat("ä", api.MaxName/2)}) },
		"ready behind what waits":   func(i *api.Image) { i.Graphs[0].States = states(api.Ready, api.Ready) },
		"the end of a lease":        func(i *api.Image) { i.Graphs[0].States[1].Until = 1<<40 + 5 },
		"a fullest graph":           func(i *api.Image) { i.Graphs[2] = largest().Graphs[0]; i.Graphs[2].Id, i.NextToken = 8, most },
		"a need that stands behind": func(i *api.Image) { i.Graphs[2].Graph, i.Graphs[2].States = pair(), states(api.Done, api.Done) },
		"the states one by one":     func(i *api.Image) { i.Graphs[1].States = states(api.Done, api.Done, api.Done, api.Ready) },
	} {
		i := right()
		turn(&i)
		is(t, what, i, layoutOf(i).b)
	}
}

// P13.1: how long the longest encoding is.
func TestLargest(t *testing.T) {
	b := encoded(t, largest())
	needs := 15*16/2 + 16*16 // the first targets have fewer before them than they may need
	want := 24 + 1 + 16*(16+25+33+259) + 1 + 16*(8+1+32*(33+259+1+17)+needs*33) + 3 + 256*8
	if len(b) != want || len(b) > api.MaxSnap {
		t.Errorf("the largest image has %d bytes, want %d", len(b), want)
	}
}

// P13.1: the answers that are refused, in each session; the bytes that would be theirs are refused too.
func TestAnswersRefused(t *testing.T) {
	for what, a := range map[string]api.Answer{
		"the code -1":             {Code: -1},
		"the code 256":            {Code: 256},
		"the code 257":            {Code: 257},
		"the code 1 << 32":        {Code: 1 << 32},
		"the greatest code":       {Code: math.MaxInt},
		"the smallest code":       {Code: math.MinInt},
		"a target of 33 bytes":    {Target: strings.Repeat("t", api.MaxName+1)},
		"a target of 256 bytes":   {Target: strings.Repeat("t", 256)},
		"a command of 257 bytes":  {Command: strings.Repeat("c", api.MaxText+1)},
		"a command of many bytes": {Command: strings.Repeat("c", 60000)},
		"a target of 17 letters":  {Target: strings.Repeat("ä", api.MaxName/2+1)},
		"a command beside others": {Code: 255, Id: 1, Token: 2, Until: 3, Target: "a", Command: strings.Repeat("\x00", api.MaxText+1)},
	} {
		for n := range 3 {
			i := right()
			i.Sessions[n].Seq, i.Sessions[n].Answer = 9, a
			refused(t, what, i)
			// A code has no bytes that would be its.
			if a.Code >= 0 && a.Code <= 255 {
				none(t, what, layoutOf(i).b)
			}
		}
	}
}

// P13.1: images that queue.Load refuses, each for one reason; P13.2: the bytes that would be theirs are refused too.
func TestLoadRefuses(t *testing.T) {
	for what, turn := range map[string]func(*api.Image){
		"the zero image":                 func(i *api.Image) { *i = api.Image{} },
		"the next graph 0":               func(i *api.Image) { *i = api.Image{NextToken: 1} },
		"the next token 0":               func(i *api.Image) { *i = api.Image{NextGraph: 1} },
		"a session 0":                    func(i *api.Image) { i.Sessions[0].Id = 0 },
		"a session twice":                func(i *api.Image) { i.Sessions[0].Id = 5 },
		"sessions in a wrong order":      func(i *api.Image) { i.Sessions[2].Id = 4 },
		"an answer to no command":        func(i *api.Image) { i.Sessions[2].Seq = 0 },
		"a session too many":             func(i *api.Image) { i.Sessions = sessions(api.MaxSessions + 1) },
		"253 sessions":                   func(i *api.Image) { i.Sessions = sessions(253) },
		"a graph too many":               func(i *api.Image) { i.Graphs, i.NextGraph = graphs(api.MaxGraphs+1), 99 },
		"the graph 0":                    func(i *api.Image) { i.Graphs[0].Id = 0 },
		"a graph twice":                  func(i *api.Image) { i.Graphs[0].Id = 3 },
		"graphs in a wrong order":        func(i *api.Image) { i.Graphs[0].Id = 4 },
		"the next graph":                 func(i *api.Image) { i.NextGraph = 8 },
		"no targets":                     func(i *api.Image) { i.Graphs[2] = api.GraphRow{Id: 8} },
		"a target too many":              func(i *api.Image) { i.Graphs[2].Graph, i.Graphs[2].States = tooMany(), make([]api.State, 33) },
		"a need too many":                func(i *api.Image) { i.Graphs[2] = withNeeds(api.MaxNeeds + 1) },
		"a name too long":                func(i *api.Image) { i.Graphs[2].Graph.Targets[0].Name = strings.Repeat("a", api.MaxName+1) },
		"a command too long":             func(i *api.Image) { i.Graphs[2].Graph.Targets[0].Command = strings.Repeat("a", api.MaxText+1) },
		"a name with a colon":            func(i *api.Image) { i.Graphs[2].Graph.Targets[0].Name = "a:" },
		"no name":                        func(i *api.Image) { i.Graphs[2].Graph.Targets[0].Name = "" },
		"a command with a tab":           func(i *api.Image) { i.Graphs[2].Graph.Targets[0].Command = "\t" },
		"a need that is not there":       func(i *api.Image) { i.Graphs[2].Graph.Targets[0].Needs = []string{"b"} },
		"a need too long":                func(i *api.Image) { i.Graphs[2].Graph.Targets[0].Needs = []string{strings.Repeat("b", 33)} },
		"a need twice":                   func(i *api.Image) { i.Graphs[0].Graph.Targets[0].Needs = []string{"b", "b"} },
		"a cycle":                        func(i *api.Image) { i.Graphs[2].Graph.Targets[0].Needs = []string{"a"} },
		"no state":                       func(i *api.Image) { i.Graphs[2].States = nil },
		"too few states":                 func(i *api.Image) { i.Graphs[1].States = i.Graphs[1].States[:3] },
		"too many states":                func(i *api.Image) { i.Graphs[2].States = states(api.Cancelled, api.Cancelled) },
		"the state 7":                    func(i *api.Image) { i.Graphs[2].States[0].State = 7 },
		"the state 255":                  func(i *api.Image) { i.Graphs[2].States[0].State = 255 },
		"a token without a lease":        func(i *api.Image) { i.Graphs[2].States[0].Token = 1 },
		"an end without a lease":         func(i *api.Image) { i.Graphs[2].States[0].Until = 9 },
		"the token 0":                    func(i *api.Image) { i.Graphs[0].States[1].Token = 0 },
		"the next token":                 func(i *api.Image) { i.Graphs[0].States[1].Token = 7 },
		"a token twice":                  func(i *api.Image) { i.Graphs[0].States[1].Token = 2 },
		"a lease that is over":           func(i *api.Image) { i.Graphs[0].States[1].Until = 4 },
		"what waits for nothing":         func(i *api.Image) { i.Graphs[2].States[0].State = api.Waiting },
		"what waits for what failed":     func(i *api.Image) { i.Graphs[0].States[1] = api.State{State: api.Failed} },
		"a key too many":                 func(i *api.Image) { i.Built = keys(api.MaxBuilt + 1) },
		"a key twice":                    func(i *api.Image) { i.Built = []uint64{5, 6, 5} },
		"a key twice, as many as may be": func(i *api.Image) { i.Built = append(keys(255), 255) },
	} {
		i := right()
		turn(&i)
		refused(t, what, i)
		none(t, what, layoutOf(i).b)
	}
}

// tooMany answers a graph with one target more than there may be.
func tooMany() api.Graph {
	g := fullest(0)
	g.Targets = append(g.Targets, api.Target{Name: "more"})
	return g
}

// withNeeds answers a graph with a target of n needs.
func withNeeds(n int) api.GraphRow {
	row := api.GraphRow{Id: 8, Graph: fullest(0)}
	last := &row.Graph.Targets[api.MaxTargets-1]
	last.Needs = nil
	for _, target := range row.Graph.Targets[:n] {
		last.Needs = append(last.Needs, target.Name)
	}
	row.States = slices.Repeat(states(api.Done), api.MaxTargets)
	return row
}

// P13.1: states that no byte stands for are refused, though their lowest byte is that of one.
func TestStatesRefused(t *testing.T) {
	for _, kind := range []int{-1, 256 + api.Cancelled, 1<<32 + api.Done, math.MaxInt, math.MinInt, math.MinInt + api.Done} {
		i := right()
		i.Graphs[2].States[0].State = kind
		refused(t, "a state that is none", i)
	}
}

// P13.1, R5: the image stays as it is, with what stands behind the ends of its lists, and the bytes are the caller's.
func TestEncodeMemory(t *testing.T) {
	build := func() api.Image {
		i := right()
		i.Sessions, i.Built = append(i.Sessions, api.SessionRow{Id: 99})[:3], append(i.Built, 99)[:3]
		i.Graphs = append(i.Graphs, api.GraphRow{Id: 99})[:3]
		row := &i.Graphs[0]
		row.States = append(row.States, leased(99, 99))[:2]
		row.Graph.Targets = append(row.Graph.Targets, api.Target{Name: "behind"})[:2]
		row.Graph.Targets[0].Needs = append(row.Graph.Targets[0].Needs, "behind")[:1]
		return i
	}
	whole := func(i api.Image) api.Image {
		i.Sessions, i.Built, i.Graphs = i.Sessions[:4], i.Built[:4], slices.Clone(i.Graphs[:4])
		row := &i.Graphs[0]
		row.States, row.Graph.Targets = row.States[:3], slices.Clone(row.Graph.Targets[:3])
		row.Graph.Targets[0].Needs = row.Graph.Targets[0].Needs[:2]
		return i
	}
	i := build()
	first := encoded(t, i)
	want := bytes.Clone(first)
	fill(first, 0xee)
	if second := encoded(t, i); !bytes.Equal(second, want) || !bytes.Equal(want, layoutOf(right()).b) {
		t.Errorf("Encode answers % x, then % x", want, second)
	}
	if !same(whole(i), whole(build())) {
		t.Error("Encode has changed the image to", whole(i))
	}
	b := encoded(t, i)
	spoil(i)
	if !bytes.Equal(b, want) {
		t.Errorf("what was encoded became % x", b)
	}
}

// P13.1, R6: each call answers the same, whatever was asked between.
func TestEncodeAgain(t *testing.T) {
	want := encoded(t, right())
	for range 3 {
		image.Encode(largest())
		image.Encode(api.Image{})
		image.Decode(want[1:])
		if got := encoded(t, right()); !bytes.Equal(got, want) {
			t.Fatalf("Encode answers % x, want % x", got, want)
		}
	}
}
