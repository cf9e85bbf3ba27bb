package queue_test

import (
	"math"
	"slices"
	"strings"
	"testing"

	"dockyard/api"
	"dockyard/queue"
)

// P12.2: View answers the states of a graph that is there, and otherwise ErrQueueNone; the time in both cases.
func TestView(t *testing.T) {
	a := begin(t)
	none := func(now uint64, ids ...uint64) {
		t.Helper()
		for _, id := range ids {
			if v := a.q.View(id); v.Code != api.ErrQueueNone || v.Now != now || len(v.States) != 0 {
				t.Errorf("View of %d answers %v, want none at %d", id, v, now)
			}
		}
	}
	none(0, 0, 1, 2, most)
	a.do(api.Command{Kind: api.CmdSubmit, Graph: pair()})
	a.do(api.Command{Kind: api.CmdSubmit, Graph: diamond()})
	a.do(api.Command{Kind: api.CmdClaim})
	a.stands(1, api.State{}, leased(1, 8))
	a.stands(2, states(api.Waiting, api.Waiting, api.Waiting, api.Ready)...)
	none(0, 0, 3, 1<<32+1, most)
	a.advance(5)
	a.stands(1, api.State{}, leased(1, 8))
	none(5, 0, 3)
	a.do(api.Command{Kind: api.CmdCancel, Id: 1})
	a.do(api.Command{Kind: api.CmdCancel, Id: 1})
	a.advance(most)
	none(most, 0, 1, 3)
	a.stands(2, states(api.Waiting, api.Waiting, api.Waiting, api.Ready)...)
}

// P12.2: asking changes nothing, and what is answered is the caller's own.
func TestViewMemory(t *testing.T) {
	a := begin(t)
	a.do(api.Command{Kind: api.CmdSubmit, Graph: diamond()})
	before := kept(a.q.Dump())
	first := a.q.View(1)
	second := a.q.View(1)
	spoilList(first.States, leased(7, 7))
	if want := states(0, 0, 0, 1); !slices.Equal(second.States, want) {
		t.Error("the second view is", second)
	}
	a.stands(1, states(0, 0, 0, 1)...)
	a.q.Now()
	a.q.View(9)
	dumps(t, a.q, before)
}

// P12.2: a view stays as it is when the queue goes on.
func TestViewStays(t *testing.T) {
	a := begin(t)
	a.do(api.Command{Kind: api.CmdSubmit, Graph: pair()})
	a.do(api.Command{Kind: api.CmdClaim})
	v, i := a.q.View(1), a.q.Dump()
	want := []api.State{{}, leased(1, 8)}
	a.advance(3)
	a.do(api.Command{Kind: api.CmdRenew, Token: 1})
	a.do(api.Command{Kind: api.CmdReport, Token: 1, Good: true})
	a.do(api.Command{Kind: api.CmdClaim})
	a.do(api.Command{Kind: api.CmdCancel, Id: 1})
	a.do(api.Command{Kind: api.CmdCancel, Id: 1})
	if !slices.Equal(v.States, want) || len(i.Graphs) != 1 || !slices.Equal(i.Graphs[0].States, want) || len(i.Built) != 0 || i.Sessions[0].Seq != 2 {
		t.Error("what was answered has become", v, i)
	}
}

// P12.3: a dump tells all of it.
func TestDump(t *testing.T) {
	q := queue.New()
	dumps(t, q, api.Image{NextGraph: 1, NextToken: 1})
	b, a := ask(t, q, most), ask(t, q, 3)
	a.do(api.Command{Kind: api.CmdSubmit, Graph: pair()})
	b.do(api.Command{Kind: api.CmdSubmit, Graph: named(4)})
	a.advance(5)
	b.do(api.Command{Kind: api.CmdClaim})
	a.do(api.Command{Kind: api.CmdClaim})
	a.do(api.Command{Kind: api.CmdReport, Token: 2, Good: true})
	want := api.Image{
		Now: 5, NextGraph: 3, NextToken: 3,
		Sessions: []api.SessionRow{{Id: 3, Seq: 3, Answer: api.Answer{Id: 2, Target: "a"}}, {Id: most, Seq: 2, Answer: api.Answer{Id: 1, Token: 1, Until: 13, Target: "b", Command: "cc b"}}},
		Graphs: []api.GraphRow{
			{Id: 1, Graph: pair(), States: []api.State{{}, leased(1, 13)}},
			{Id: 2, Graph: named(4), States: states(api.Done)},
		},
		Built: keysOf(4),
	}
	dumps(t, q, want)
	dumps(t, q, want)
	dumps(t, loaded(t, want), want)
}

// P12.3: what a dump answers is the caller's own, and what Load is given is not kept.
func TestImageMemory(t *testing.T) {
	a := begin(t)
	a.do(api.Command{Kind: api.CmdSubmit, Graph: diamond()})
	a.do(api.Command{Kind: api.CmdSubmit, Graph: named(3)})
	a.build("a", true)
	a.do(api.Command{Kind: api.CmdClaim})
	want := kept(a.q.Dump())
	given := a.q.Dump()
	x := loaded(t, given)
	if !same(given, want) {
		t.Error("Load has changed its image to", given)
	}
	spoil(given)
	first := x.Dump()
	spoil(first)
	dumps(t, x, want)
	dumps(t, a.q, want)
	second := a.q.Dump()
	spoil(a.q.Dump())
	if !same(second, want) {
		t.Error("the second dump is", second)
	}
	dumps(t, a.q, want)
}

// P12.3: no two lists of a dump share memory.
func TestDumpListsApart(t *testing.T) {
	a := begin(t)
	a.do(api.Command{Kind: api.CmdSubmit, Graph: diamond()})
	a.do(api.Command{Kind: api.CmdSubmit, Graph: diamond()})
	want, i := kept(a.q.Dump()), a.q.Dump()
	i.Graphs[0].States = append(i.Graphs[0].States, leased(9, 9))[:4]
	spoilList(i.Graphs[0].States, leased(9, 9))
	spoilGraph(i.Graphs[0].Graph)
	if !same(api.Image{Graphs: i.Graphs[1:]}, api.Image{Graphs: want.Graphs[1:]}) {
		t.Error("the second graph has become", i.Graphs[1])
	}
	i = a.q.Dump()
	targets := i.Graphs[0].Graph.Targets
	spoilList(targets[0].Needs, "spoilt")
	if !slices.Equal(targets[1].Needs, []string{"a"}) || !slices.Equal(targets[2].Needs, []string{"a"}) {
		t.Error("the needs have become", targets)
	}
}

// P12.3: lists may have something behind their ends, which Load neither reads nor changes.
func TestLoadCapacity(t *testing.T) {
	built := []uint64{1, 2, 1}
	rows := []api.GraphRow{{Id: 1, Graph: single(), States: append(states(api.Done), leased(0, 0))[:1]}, {Id: 7}}
	sessions := []api.SessionRow{{Id: 1}, {}}
	x := loaded(t, api.Image{NextGraph: 2, NextToken: 1, Built: built[:2], Graphs: rows[:1], Sessions: sessions[:1]})
	a := &asker{t: t, q: x, session: 1}
	a.q.Apply(api.Command{Kind: api.CmdOpen, Session: 2})
	a.do(api.Command{Kind: api.CmdSubmit, Graph: single()})
	a.build("a", true)
	a.do(api.Command{Kind: api.CmdCancel, Id: 1})
	if built[2] != 1 || rows[1].Id != 7 || rows[0].Id != 1 || sessions[1] != (api.SessionRow{}) || rows[0].States[:2][1] != leased(0, 0) {
		t.Error("what stands behind has become", built, rows, sessions)
	}
}

// right answers an image that Load takes, with something of everything in it.
func right() api.Image {
	return api.Image{
		Now: 4, NextGraph: 9, NextToken: 7,
		Sessions: []api.SessionRow{{Id: 2}, {Id: 5, Seq: 3, Answer: api.Answer{Code: 122}}},
		Graphs: []api.GraphRow{
			{Id: 1, Graph: pair(), States: []api.State{{}, leased(6, 5)}},
			{Id: 3, Graph: diamond(), States: []api.State{{State: api.Skipped}, leased(2, most), {State: api.Failed}, {State: api.Done}}},
			{Id: 8, Graph: single(), States: states(api.Cancelled)},
		},
		Built: []uint64{5, 0, most},
	}
}

// many answers n graphs.
func many(n int) []api.GraphRow {
	var l []api.GraphRow
	for i := range n {
		l = append(l, api.GraphRow{Id: uint64(i + 1), Graph: single(), States: states(api.Ready)})
	}
	return l
}

func keys(n int) []uint64 {
	var l []uint64
	for i := range n {
		l = append(l, uint64(n-i))
	}
	return l
}

// P12.3: each reason for which Load refuses an image, alone.
func TestLoadRefuses(t *testing.T) {
	loaded(t, right())
	for name, spoilt := range map[string]func(*api.Image){
		"the next graph 0":                func(i *api.Image) { *i = api.Image{NextToken: 1} },
		"the next token 0":                func(i *api.Image) { *i = api.Image{NextGraph: 1} },
		"the zero image":                  func(i *api.Image) { *i = api.Image{} },
		"the next token 0, with graphs":   func(i *api.Image) { i.Graphs, i.NextToken = i.Graphs[2:], 0 },
		"a session 0":                     func(i *api.Image) { i.Sessions[0].Id = 0 },
		"a session twice":                 func(i *api.Image) { i.Sessions[0].Id = 5 },
		"sessions in a wrong order":       func(i *api.Image) { i.Sessions[0].Id = 6 },
		"an answer to no command":         func(i *api.Image) { i.Sessions[1].Seq = 0 },
		"too many sessions":               func(i *api.Image) { i.Sessions = make([]api.SessionRow, 17); number(i.Sessions) },
		"too many graphs":                 func(i *api.Image) { i.Graphs, i.NextGraph = many(17), 18 },
		"the graph 0":                     func(i *api.Image) { i.Graphs[0].Id = 0 },
		"a graph twice":                   func(i *api.Image) { i.Graphs[0].Id = 3 },
		"graphs in a wrong order":         func(i *api.Image) { i.Graphs[0].Id = 4 },
		"the next graph":                  func(i *api.Image) { i.NextGraph = 8 },
		"a graph behind the next one":     func(i *api.Image) { i.Graphs[2].Id = 10 },
		"the greatest graph":              func(i *api.Image) { i.Graphs[2].Id, i.NextGraph = most, most },
		"no targets":                      func(i *api.Image) { i.Graphs[2] = api.GraphRow{Id: 8} },
		"no targets, one state":           func(i *api.Image) { i.Graphs[2].Graph = api.Graph{} },
		"too many targets":                func(i *api.Image) { i.Graphs[2].Graph, i.Graphs[2].States = wide(33, "x"), make([]api.State, 33) },
		"a name that is too long":         func(i *api.Image) { i.Graphs[2].Graph.Targets[0].Name = strings.Repeat("a", 33) },
		"a name with a colon":             func(i *api.Image) { i.Graphs[2].Graph.Targets[0].Name = "a:" },
		"a need that is not there":        func(i *api.Image) { i.Graphs[2].Graph.Targets[0].Needs = []string{"b"} },
		"a cycle":                         func(i *api.Image) { i.Graphs[2].Graph.Targets[0].Needs = []string{"a"} },
		"no state":                        func(i *api.Image) { i.Graphs[2].States = nil },
		"too few states":                  func(i *api.Image) { i.Graphs[1].States = i.Graphs[1].States[:3] },
		"too many states":                 func(i *api.Image) { i.Graphs[2].States = states(api.Cancelled, api.Cancelled) },
		"the state 7":                     func(i *api.Image) { i.Graphs[2].States[0].State = 7 },
		"the state -1":                    func(i *api.Image) { i.Graphs[2].States[0].State = -1 },
		"the state 256":                   func(i *api.Image) { i.Graphs[2].States[0].State = 256 },
		"the greatest state":              func(i *api.Image) { i.Graphs[2].States[0].State = math.MaxInt },
		"the smallest state":              func(i *api.Image) { i.Graphs[2].States[0].State = math.MinInt },
		"a token of what waits":           func(i *api.Image) { i.Graphs[0].States[0].Token = 1 },
		"an end of what waits":            func(i *api.Image) { i.Graphs[0].States[0].Until = 9 },
		"a token of what is ready":        func(i *api.Image) { i.Graphs[2].States[0] = api.State{State: api.Ready, Token: 1} },
		"an end of what is ready":         func(i *api.Image) { i.Graphs[2].States[0] = api.State{State: api.Ready, Until: 9} },
		"a token of what is done":         func(i *api.Image) { i.Graphs[1].States[3].Token = 3 },
		"an end of what is done":          func(i *api.Image) { i.Graphs[1].States[3].Until = 1 },
		"a token of what failed":          func(i *api.Image) { i.Graphs[1].States[2].Token = 3 },
		"an end of what failed":           func(i *api.Image) { i.Graphs[1].States[2].Until = most },
		"a token of what is skipped":      func(i *api.Image) { i.Graphs[1].States[0].Token = 3 },
		"an end of what is skipped":       func(i *api.Image) { i.Graphs[1].States[0].Until = 9 },
		"a token of what is cancelled":    func(i *api.Image) { i.Graphs[2].States[0].Token = most },
		"an end of what is cancelled":     func(i *api.Image) { i.Graphs[2].States[0].Until = 9 },
		"the token 0":                     func(i *api.Image) { i.Graphs[0].States[1].Token = 0 },
		"the next token":                  func(i *api.Image) { i.Graphs[0].States[1].Token = 7 },
		"a token behind the next one":     func(i *api.Image) { i.Graphs[0].States[1].Token = most },
		"a next token that is given":      func(i *api.Image) { i.NextToken = 6 },
		"a token twice":                   func(i *api.Image) { i.Graphs[0].States[1].Token = 2 },
		"a token twice in a graph":        func(i *api.Image) { i.Graphs[1].States[2] = leased(2, 9); i.Graphs[1].States[0].State = 0 },
		"a lease that is over":            func(i *api.Image) { i.Graphs[0].States[1].Until = 4 },
		"a lease without an end":          func(i *api.Image) { i.Graphs[0].States[1].Until = 0 },
		"a time that ends a lease":        func(i *api.Image) { i.Now = 5 },
		"the greatest time":               func(i *api.Image) { i.Graphs, i.Now = i.Graphs[1:], most },
		"what waits for nothing":          func(i *api.Image) { i.Graphs[2].States[0].State = api.Waiting },
		"what waits for what is done":     func(i *api.Image) { i.Graphs[0].States[1] = api.State{State: api.Done} },
		"what waits for what failed":      func(i *api.Image) { i.Graphs[0].States[1] = api.State{State: api.Failed} },
		"what waits for what is skipped":  func(i *api.Image) { i.Graphs[0].States[1] = api.State{State: api.Skipped} },
		"what waits for a cancelled one":  func(i *api.Image) { i.Graphs[0].States[1] = api.State{State: api.Cancelled} },
		"what waits for one that failed":  func(i *api.Image) { i.Graphs[1].States[0].State = api.Waiting },
		"too many keys":                   func(i *api.Image) { i.Built = keys(257) },
		"a key twice":                     func(i *api.Image) { i.Built = []uint64{5, 6, 5} },
		"a key twice, one by the other":   func(i *api.Image) { i.Built = []uint64{0, 0} },
		"too many keys, the last a first": func(i *api.Image) { i.Built = append(keys(255), 255) },
	} {
		i := right()
		spoilt(&i)
		if q, e := queue.Load(i); q != nil || e != api.ErrArg {
			t.Errorf("Load of an image with %s answers %v, %d", name, q, e)
		}
	}
}

func number(l []api.SessionRow) {
	for n := range l {
		l[n].Id = uint64(n + 1)
	}
}

// P12.3: what is at the edges of what Load takes.
func TestLoadTakes(t *testing.T) {
	for name, turn := range map[string]func(*api.Image){
		"what it is":                    func(i *api.Image) {},
		"a new one":                     func(i *api.Image) { *i = api.Image{NextGraph: 1, NextToken: 1} },
		"empty lists":                   func(i *api.Image) { i.Sessions, i.Graphs, i.Built = []api.SessionRow{}, []api.GraphRow{}, []uint64{} },
		"the greatest numbers":          func(i *api.Image) { *i = api.Image{Now: most, NextGraph: most, NextToken: most} },
		"the greatest graph of all":     func(i *api.Image) { i.NextGraph, i.Graphs[2].Id = most, most-1 },
		"the greatest token of all":     func(i *api.Image) { i.NextToken, i.Graphs[0].States[1].Token = most, most-1 },
		"the greatest time of a lease":  func(i *api.Image) { i.Graphs, i.Now = i.Graphs[1:], most-1 },
		"the token before the next one": func(i *api.Image) { i.Graphs[0].States[1].Token = 6 },
		"the token 1":                   func(i *api.Image) { i.Graphs[0].States[1].Token = 1 },
		"as many sessions as may be":    func(i *api.Image) { i.Sessions = make([]api.SessionRow, 16); number(i.Sessions) },
		"as many graphs as may be":      func(i *api.Image) { i.Graphs, i.NextGraph = many(16), 17 },
		"as many keys as may be":        func(i *api.Image) { i.Built = keys(256) },
		"ready behind what waits":       func(i *api.Image) { i.Graphs[0].States = states(api.Ready, api.Ready) },
		"done behind what failed":       func(i *api.Image) { i.Graphs[0].States = states(api.Done, api.Failed) },
		"skipped behind what is done":   func(i *api.Image) { i.Graphs[0].States = states(api.Skipped, api.Done) },
		"leased behind what is leased":  func(i *api.Image) { i.Graphs[0].States[0] = leased(1, 5) },
		"what waits for a ready one":    func(i *api.Image) { i.Graphs[0].States[1] = api.State{State: api.Ready} },
		"an answer of any length":       func(i *api.Image) { i.Sessions[1].Answer.Target = strings.Repeat("\x00", 1000) },
		"an answer that is zero":        func(i *api.Image) { i.Sessions[1].Answer = api.Answer{} },
		"as many targets as may be": func(i *api.Image) {
			i.Graphs[2].Graph, i.Graphs[2].States = wide(32, "x"), slices.Repeat(states(api.Ready), 32)
		},
		"tokens in falling order": func(i *api.Image) {
			i.Graphs[1].States = []api.State{leased(5, 9), leased(4, 8), leased(3, 7), leased(2, 5)}
		},
	} {
		i := right()
		turn(&i)
		q, e := queue.Load(i)
		if e != api.OK {
			t.Errorf("Load of %s answers %d", name, e)
			continue
		}
		if got := q.Dump(); !same(got, i) || q.Now() != i.Now {
			t.Errorf("Dump of %s answers %v, want %v", name, got, i)
		}
	}
}

// P12.3: a clone is the same, and what becomes of one of them is not seen in the other.
func TestClone(t *testing.T) {
	a := begin(t)
	a.do(api.Command{Kind: api.CmdSubmit, Graph: diamond()})
	a.do(api.Command{Kind: api.CmdSubmit, Graph: single()})
	a.build("a", true)
	a.do(api.Command{Kind: api.CmdClaim})
	before := kept(a.q.Dump())
	all := []api.Command{
		{Kind: api.CmdReport, Token: 2, Good: true}, {Kind: api.CmdClaim}, {Kind: api.CmdRenew, Token: 3}, {Kind: api.CmdSubmit, Graph: pair()},
		{Kind: api.CmdCancel, Id: 1}, {Kind: api.CmdCancel, Id: 1}, {Kind: api.CmdCancel, Id: 2},
	}
	b := &asker{t: t, q: a.q.Clone(), session: 1, seq: a.seq}
	dumps(t, b.q, before)
	b.advance(2)
	for _, c := range all {
		if x := b.do(c); x.Code != api.OK {
			t.Errorf("the clone answers %v to the kind %d", x, c.Kind)
		}
		dumps(t, a.q, before)
	}
	ask(t, b.q, 7)
	dumps(t, a.q, before)
	apart := kept(b.q.Dump())
	a.advance(3)
	for _, c := range all {
		a.do(c)
	}
	ask(t, a.q, 8)
	dumps(t, b.q, apart)
}

// P12.3: clones of one queue, and of its clones, all go on by themselves.
func TestCloneBuilt(t *testing.T) {
	a := ask(t, loaded(t, api.Image{NextGraph: 1, NextToken: 1, Built: keys(255)}), 1)
	var l []*asker
	for range 3 {
		l = append(l, &asker{t: t, q: a.q.Clone(), session: 1})
	}
	l = append(l, &asker{t: t, q: l[0].q.Clone(), session: 1}, a)
	for more := range 2 {
		for n, b := range l {
			b.do(api.Command{Kind: api.CmdSubmit, Graph: named(10*n + more)})
			b.build("a", true)
		}
	}
	for n, b := range l {
		want := append(keys(255)[1:], keysOf(10*n, 10*n+1)...)
		if got := b.q.Dump().Built; !slices.Equal(got, want) {
			t.Errorf("built of %d is %v, want %v", n, got, want)
		}
	}
}
