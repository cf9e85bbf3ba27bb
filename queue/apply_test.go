package queue_test

import (
	"math"
	"slices"
	"strings"
	"testing"

	"dockyard/api"
	"dockyard/queue"
)

// P12.1: the chapter's examples.
func TestExamples(t *testing.T) {
	q := queue.New()
	if x := q.Apply(api.Command{Kind: api.CmdClaim, Session: 1}); x != (api.Answer{Code: 110}) {
		t.Error("Claim without a session:", x)
	}
	a := ask(t, q, 1)
	a.is(api.Command{Kind: api.CmdClaim}, api.Answer{Code: 122})
	a.is(api.Command{Kind: api.CmdSubmit, Graph: pair()}, api.Answer{Id: 1})
	claimed := api.Answer{Id: 1, Token: 1, Until: 8, Target: "b", Command: "cc b"}
	a.is(api.Command{Kind: api.CmdClaim}, claimed)
	if x := q.Apply(api.Command{Kind: api.CmdClaim, Session: 1, Seq: 3}); x != claimed {
		t.Error("Claim 1.3 again:", x)
	}
	a.is(api.Command{Kind: api.CmdClaim}, api.Answer{Code: 122})
	a.is(api.Command{Kind: api.CmdReport, Token: 1, Good: true}, api.Answer{Id: 1, Target: "b"})
	a.stands(1, states(api.Ready, api.Done)...)
	a.is(api.Command{Kind: api.CmdClaim}, api.Answer{Id: 1, Token: 2, Until: 8, Target: "a", Command: "cc a"})
	a.advance(8)
	a.is(api.Command{Kind: api.CmdReport, Token: 2}, api.Answer{Code: 100})
	a.is(api.Command{Kind: api.CmdClaim}, api.Answer{Id: 1, Token: 3, Until: 16, Target: "a", Command: "cc a"})
}

// P12.1: a kind that is none of the seven is answered ErrArg and changes nothing, not even its session.
func TestNoKind(t *testing.T) {
	a := begin(t)
	a.do(api.Command{Kind: api.CmdSubmit, Graph: pair()})
	before := a.q.Dump()
	for _, kind := range []int{0, -1, -7, 8, 9, 15, 16, 1<<8 + 1, 1<<32 + 2, math.MaxInt, math.MinInt} {
		for _, session := range []uint64{0, 1, 2} {
			c := api.Command{Kind: kind, Session: session, Seq: 9, Graph: single(), Id: 1, Token: 1, Good: true, Time: 5}
			if x := a.q.Apply(c); x != (api.Answer{Code: api.ErrArg}) {
				t.Errorf("the kind %d is answered %v", kind, x)
			}
		}
	}
	dumps(t, a.q, before)
}

// P12.1: time goes on, and never back; it asks for no session.
func TestAdvance(t *testing.T) {
	a := &asker{t: t, q: queue.New()}
	for _, c := range []struct{ time, now uint64 }{
		{0, 0}, {1, 1}, {1, 1}, {0, 1}, {5, 5}, {4, 5}, {6, 6}, {1 << 32, 1 << 32}, {6, 1 << 32}, {1 << 63, 1 << 63}, {math.MaxInt64, 1 << 63}, {most, most}, {0, most}, {most, most},
	} {
		a.advance(c.time)
		if a.q.Now() != c.now {
			t.Errorf("behind %d it is %d, want %d", c.time, a.q.Now(), c.now)
		}
		dumps(t, a.q, api.Image{Now: c.now, NextGraph: 1, NextToken: 1})
	}
}

// P12.1: leases of all graphs are over at their end, and no sooner; time that does not go on ends none.
func TestAdvanceExpires(t *testing.T) {
	a := begin(t)
	for range 3 {
		a.do(api.Command{Kind: api.CmdSubmit, Graph: single()})
	}
	a.do(api.Command{Kind: api.CmdClaim})
	a.advance(2)
	a.do(api.Command{Kind: api.CmdClaim})
	a.do(api.Command{Kind: api.CmdClaim})
	a.do(api.Command{Kind: api.CmdRenew, Token: 1})
	a.advance(3)
	a.do(api.Command{Kind: api.CmdRenew, Token: 2})
	a.advance(9)
	a.stands(1, leased(1, 10))
	a.stands(2, leased(2, 11))
	a.stands(3, leased(3, 10))
	a.advance(10)
	a.stands(1, states(api.Ready)...)
	a.stands(2, leased(2, 11))
	a.stands(3, states(api.Ready)...)
	a.advance(10)
	a.advance(0)
	a.stands(2, leased(2, 11))
	a.advance(most)
	a.stands(2, states(api.Ready)...)
}

// P12.1: Open answers what the table of sessions does, and a full table goes on.
func TestOpen(t *testing.T) {
	q := queue.New()
	open := func(id uint64) api.Answer {
		return q.Apply(api.Command{Kind: api.CmdOpen, Session: id, Seq: 5, Id: 3, Token: 3, Good: true, Time: 3})
	}
	for _, id := range []uint64{0, most, 1, most, 1, 0} {
		want := api.Answer{}
		if id == 0 {
			want.Code = api.ErrArg
		}
		if x := open(id); x != want {
			t.Errorf("Open of %d answers %v", id, x)
		}
	}
	dumps(t, q, api.Image{NextGraph: 1, NextToken: 1, Sessions: []api.SessionRow{{Id: 1}, {Id: most}}})
	for id := uint64(2); id <= 18; id++ {
		want := api.Answer{}
		if id > 15 {
			want.Code = api.ErrSessionFull
		}
		if x := open(id); x != want {
			t.Errorf("Open of %d answers %v", id, x)
		}
	}
	a := &asker{t: t, q: q, session: 1}
	a.do(api.Command{Kind: api.CmdClaim})
	if x := open(1); x != (api.Answer{}) || q.Dump().Sessions[0] != (api.SessionRow{Id: 1, Seq: 1, Answer: api.Answer{Code: 122}}) {
		t.Error("Open of a session that is there:", x, q.Dump().Sessions)
	}
}

// numbered answers one command of each kind that is numbered.
func numbered() []api.Command {
	return []api.Command{
		{Kind: api.CmdSubmit, Graph: pair()}, {Kind: api.CmdClaim}, {Kind: api.CmdRenew, Token: 1}, {Kind: api.CmdReport, Token: 1, Good: true}, {Kind: api.CmdCancel, Id: 1},
	}
}

// P12.1: a numbered command of no session, or behind a later one, is refused and changes nothing.
func TestRefusedBySession(t *testing.T) {
	a := begin(t)
	a.do(api.Command{Kind: api.CmdSubmit, Graph: pair()})
	a.do(api.Command{Kind: api.CmdClaim})
	a.seq = 7
	a.is(api.Command{Kind: api.CmdRenew, Token: 1}, api.Answer{Id: 1, Token: 1, Until: 8, Target: "b"})
	before := a.q.Dump()
	for _, c := range numbered() {
		for _, x := range []struct {
			session, seq uint64
			want         api.Errno
		}{{0, 9, 110}, {2, 9, 110}, {1<<32 + 1, 9, 110}, {2, 0, 110}, {1, 0, 111}, {1, 1, 111}, {1, 7, 111}} {
			c.Session, c.Seq = x.session, x.seq
			if got := a.q.Apply(c); got != (api.Answer{Code: x.want}) {
				t.Errorf("the command %v of kind %d is answered %v, want %d", c, c.Kind, got, x.want)
			}
		}
	}
	dumps(t, a.q, before)
}

// P12.1: a command that is told again is answered what it was, be it an error or not, whatever else it asks for now, and changes nothing.
func TestToldAgain(t *testing.T) {
	a := begin(t)
	a.advance(3)
	for _, c := range append(numbered(), append(numbered(), api.Command{Kind: api.CmdSubmit}, api.Command{Kind: api.CmdCancel, Id: 9})...) {
		want := a.do(c)
		before := a.q.Dump()
		for _, again := range append(numbered(), c, api.Command{Kind: api.CmdSubmit}) {
			again.Session, again.Seq = 1, a.seq
			if got := a.q.Apply(again); got != want {
				t.Errorf("the kind %d behind the kind %d is answered %v, want %v", again.Kind, c.Kind, got, want)
			}
		}
		dumps(t, a.q, before)
	}
	want := []api.SessionRow{{Id: 1, Seq: 12, Answer: api.Answer{Code: 121}}}
	if got := a.q.Dump().Sessions; !slices.Equal(got, want) {
		t.Errorf("the sessions are %v, want %v", got, want)
	}
}

// P12.1: a last command is answered as it was even when time has gone on since.
func TestToldAgainLater(t *testing.T) {
	a := begin(t)
	other := ask(t, a.q, 2)
	a.do(api.Command{Kind: api.CmdSubmit, Graph: single()})
	claimed := a.do(api.Command{Kind: api.CmdClaim})
	a.advance(8)
	other.is(api.Command{Kind: api.CmdClaim}, api.Answer{Id: 1, Token: 2, Until: 16, Target: "a", Command: "cc a"})
	if x := a.q.Apply(api.Command{Kind: api.CmdClaim, Session: 1, Seq: 2}); x != claimed || x.Token != 1 {
		t.Error("Claim 1.2 again:", x)
	}
	a.stands(1, leased(2, 16))
}

// P12.1: every answer of a numbered command is kept, and errors are too.
func TestAnswersAreKept(t *testing.T) {
	a := begin(t)
	a.seq = 1<<63 - 2
	for _, c := range []struct {
		command api.Command
		want    api.Answer
	}{
		{api.Command{Kind: api.CmdClaim}, api.Answer{Code: 122}},
		{api.Command{Kind: api.CmdSubmit}, api.Answer{Code: 70}},
		{api.Command{Kind: api.CmdSubmit, Graph: single()}, api.Answer{Id: 1}},
		{api.Command{Kind: api.CmdRenew, Token: 1}, api.Answer{Code: 100}},
		{api.Command{Kind: api.CmdReport, Token: 1}, api.Answer{Code: 100}},
		{api.Command{Kind: api.CmdCancel, Id: 2}, api.Answer{Code: 121}},
		{api.Command{Kind: api.CmdClaim}, api.Answer{Id: 1, Token: 1, Until: 8, Target: "a", Command: "cc a"}},
		{api.Command{Kind: api.CmdRenew, Token: 1}, api.Answer{Id: 1, Token: 1, Until: 8, Target: "a"}},
		{api.Command{Kind: api.CmdReport, Token: 1}, api.Answer{Id: 1, Target: "a"}},
		{api.Command{Kind: api.CmdCancel, Id: 1}, api.Answer{Id: 1}},
	} {
		a.is(c.command, c.want)
		if got, want := a.q.Dump().Sessions, []api.SessionRow{{Id: 1, Seq: a.seq, Answer: c.want}}; !slices.Equal(got, want) {
			t.Errorf("the sessions are %v, want %v", got, want)
		}
	}
}

// P12.1: fields that a kind does not name make no difference.
func TestOtherFields(t *testing.T) {
	full := api.Command{Graph: single(), Id: 7, Token: 7, Good: true, Time: 7}
	a, b := begin(t), begin(t)
	for _, c := range append(numbered(), api.Command{Kind: api.CmdAdvance, Time: 5}, api.Command{Kind: api.CmdOpen}) {
		d := full
		d.Kind = c.Kind
		switch c.Kind {
		case api.CmdSubmit:
			d.Graph = c.Graph
		case api.CmdRenew:
			d.Token = c.Token
		case api.CmdReport:
			d.Token, d.Good = c.Token, c.Good
		case api.CmdCancel:
			d.Id = c.Id
		case api.CmdAdvance:
			d.Time = c.Time
		}
		a.is(d, b.do(c))
		dumps(t, a.q, b.q.Dump())
	}
}

// P12.1: a graph that is not valid is refused with the error of Check, ahead of a full queue.
func TestSubmitRefused(t *testing.T) {
	a := begin(t)
	wrong := func() {
		t.Helper()
		for _, c := range []struct {
			g    api.Graph
			want api.Errno
		}{
			{api.Graph{}, 70}, {api.Graph{Targets: []api.Target{}}, 70}, {api.Graph{Targets: []api.Target{{}}}, 70}, {wide(33, "cc"), 71},
			{api.Graph{Targets: []api.Target{{Name: strings.Repeat("a", 33)}}}, 71}, {api.Graph{Targets: []api.Target{{Name: "a", Command: "\x7f"}}}, 70},
			{api.Graph{Targets: []api.Target{{Name: "a", Needs: []string{"b"}}}}, 72}, {api.Graph{Targets: []api.Target{{Name: "a", Needs: []string{"a"}}}}, 73},
		} {
			a.is(api.Command{Kind: api.CmdSubmit, Graph: c.g}, api.Answer{Code: c.want})
		}
	}
	wrong()
	for n := range uint64(16) {
		a.is(api.Command{Kind: api.CmdSubmit, Graph: pair()}, api.Answer{Id: n + 1})
	}
	before := a.q.Dump()
	wrong()
	a.is(api.Command{Kind: api.CmdSubmit, Graph: pair()}, api.Answer{Code: 120})
	after := a.q.Dump()
	after.Sessions = before.Sessions
	if !same(after, before) {
		t.Error("what was refused has changed more than its session")
	}
}

// P12.1: there is room for MaxGraphs graphs, and there is again when one is removed; no number is given twice.
func TestSubmitFull(t *testing.T) {
	a := begin(t)
	for n := range uint64(16) {
		a.is(api.Command{Kind: api.CmdSubmit, Graph: single()}, api.Answer{Id: n + 1})
	}
	a.is(api.Command{Kind: api.CmdSubmit, Graph: single()}, api.Answer{Code: 120})
	a.is(api.Command{Kind: api.CmdCancel, Id: 16}, api.Answer{Id: 16})
	a.is(api.Command{Kind: api.CmdSubmit, Graph: single()}, api.Answer{Code: 120})
	a.is(api.Command{Kind: api.CmdCancel, Id: 16}, api.Answer{Id: 16})
	a.is(api.Command{Kind: api.CmdSubmit, Graph: pair()}, api.Answer{Id: 17})
	a.is(api.Command{Kind: api.CmdSubmit, Graph: single()}, api.Answer{Code: 120})
	a.stands(17, states(api.Waiting, api.Ready)...)
	if i := a.q.Dump(); i.NextGraph != 18 || len(i.Graphs) != 16 || i.Graphs[15].Id != 17 {
		t.Error("the graphs are", i)
	}
}

// P12.1: the greatest number is given to no graph.
func TestSubmitLastNumber(t *testing.T) {
	for _, c := range []struct {
		next uint64
		want []api.Answer
	}{
		{most, []api.Answer{{Code: 120}, {Code: 120}}},
		{most - 1, []api.Answer{{Id: most - 1}, {Code: 120}}},
		{most - 2, []api.Answer{{Id: most - 2}, {Id: most - 1}, {Code: 120}}},
		{1<<63 - 1, []api.Answer{{Id: 1<<63 - 1}, {Id: 1 << 63}, {Id: 1<<63 + 1}}},
	} {
		a := ask(t, loaded(t, api.Image{NextGraph: c.next, NextToken: 1}), 1)
		for _, want := range c.want {
			a.is(api.Command{Kind: api.CmdSubmit, Graph: single()}, want)
		}
		a.is(api.Command{Kind: api.CmdSubmit}, api.Answer{Code: 70})
	}
}

// P12.1: what is fresh is done at the start: its key was built, and all that it needs is fresh too.
func TestSubmitFresh(t *testing.T) {
	a := begin(t)
	a.do(api.Command{Kind: api.CmdSubmit, Graph: diamond()})
	a.stands(1, states(api.Waiting, api.Waiting, api.Waiting, api.Ready)...)
	a.build("a", true)
	a.build("b", true)
	a.build("c", false)
	a.stands(1, states(api.Skipped, api.Done, api.Failed, api.Done)...)
	a.do(api.Command{Kind: api.CmdSubmit, Graph: diamond()})
	a.stands(2, states(api.Waiting, api.Done, api.Ready, api.Done)...)
	a.build("c", true)
	a.build("d", true)
	a.do(api.Command{Kind: api.CmdSubmit, Graph: diamond()})
	a.stands(3, states(api.Done, api.Done, api.Done, api.Done)...)
	a.is(api.Command{Kind: api.CmdClaim}, api.Answer{Code: 122})
	changed := diamond()
	changed.Targets[3].Command = "cc A"
	a.do(api.Command{Kind: api.CmdSubmit, Graph: changed})
	a.stands(4, states(api.Waiting, api.Waiting, api.Waiting, api.Ready)...)
}

// P12.1: a target whose key was built is not fresh when the key of what it needs was forgotten.
func TestSubmitForgottenNeed(t *testing.T) {
	i := api.Image{NextGraph: 1, NextToken: 1}
	a := begin(t)
	a.do(api.Command{Kind: api.CmdSubmit, Graph: pair()})
	a.build("b", true)
	a.build("a", true)
	i.Built = a.q.Dump().Built[1:]
	b := ask(t, loaded(t, i), 1)
	b.do(api.Command{Kind: api.CmdSubmit, Graph: pair()})
	b.stands(1, states(api.Waiting, api.Ready)...)
}

// P12.1: the graph that was submitted is that of then, whatever becomes of the memory.
func TestSubmitKeepsNothing(t *testing.T) {
	a := begin(t)
	given := append(diamond().Targets, api.Target{Name: "behind"})[:4:5]
	given[0].Needs = append(given[0].Needs, "behind")[:2]
	g := api.Graph{Targets: given}
	a.do(api.Command{Kind: api.CmdSubmit, Graph: g})
	if given[:5][4].Name != "behind" || given[0].Needs[:3][2] != "behind" || !same(api.Image{Graphs: []api.GraphRow{{Graph: g}}}, api.Image{Graphs: []api.GraphRow{{Graph: diamond()}}}) {
		t.Error("Submit has changed what it was given:", given[:5])
	}
	spoilGraph(g)
	a.do(api.Command{Kind: api.CmdSubmit, Graph: diamond()})
	i := a.q.Dump()
	if !same(api.Image{Graphs: i.Graphs[:1]}, api.Image{Graphs: []api.GraphRow{{Id: 1, Graph: diamond(), States: states(0, 0, 0, 1)}}}) {
		t.Error("the graph is", i.Graphs[0])
	}
	a.build("a", true)
	a.build("b", true)
}
