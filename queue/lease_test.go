package queue_test

import (
	"fmt"
	"slices"
	"testing"

	"dockyard/api"
)

// P12.1: Claim gives the first target that is ready, of the graph with the smallest number that has one.
func TestClaimOrder(t *testing.T) {
	a := begin(t)
	a.do(api.Command{Kind: api.CmdSubmit, Graph: diamond()})
	a.do(api.Command{Kind: api.CmdSubmit, Graph: wide(2, "x")})
	a.do(api.Command{Kind: api.CmdSubmit, Graph: pair()})
	for n, want := range []api.Answer{
		{Id: 1, Token: 1, Until: 8, Target: "a", Command: "cc a"},
		{Id: 2, Token: 2, Until: 8, Target: "t0", Command: "x0"},
		{Id: 2, Token: 3, Until: 8, Target: "t1", Command: "x1"},
		{Id: 3, Token: 4, Until: 8, Target: "b", Command: "cc b"},
		{Code: 122},
	} {
		if got := a.do(api.Command{Kind: api.CmdClaim}); got != want {
			t.Errorf("claim %d is answered %v, want %v", n, got, want)
		}
	}
	a.is(api.Command{Kind: api.CmdReport, Token: 4, Good: true}, api.Answer{Id: 3, Target: "b"})
	a.is(api.Command{Kind: api.CmdReport, Token: 1, Good: true}, api.Answer{Id: 1, Target: "a"})
	for _, want := range []string{"b", "c"} {
		if got := a.do(api.Command{Kind: api.CmdClaim}); got.Id != 1 || got.Target != want {
			t.Errorf("Claim is answered %v, want %s of 1", got, want)
		}
	}
	a.is(api.Command{Kind: api.CmdClaim}, api.Answer{Id: 3, Token: 7, Until: 8, Target: "a", Command: "cc a"})
	a.stands(1, api.State{}, leased(5, 8), leased(6, 8), api.State{State: api.Done})
	a.stands(2, leased(2, 8), leased(3, 8))
	a.stands(3, leased(7, 8), api.State{State: api.Done})
}

// P12.1: a target without a command is given as well, with an empty one.
func TestClaimNoCommand(t *testing.T) {
	a := begin(t)
	a.do(api.Command{Kind: api.CmdSubmit, Graph: read("a:\n")})
	a.is(api.Command{Kind: api.CmdClaim}, api.Answer{Id: 1, Token: 1, Until: 8, Target: "a"})
}

// P12.1: an office whose leases are full gives none, and stays as it is; where nothing is ready, that is the answer.
func TestClaimFull(t *testing.T) {
	for _, c := range []struct{ now, token uint64 }{{most - 7, 1}, {most, 1}, {0, most}, {most - 7, most}, {most, most}} {
		a := ask(t, loaded(t, api.Image{Now: c.now, NextGraph: 1, NextToken: c.token}), 1)
		a.is(api.Command{Kind: api.CmdClaim}, api.Answer{Code: 122})
		a.do(api.Command{Kind: api.CmdSubmit, Graph: single()})
		a.is(api.Command{Kind: api.CmdClaim}, api.Answer{Code: 101})
		a.is(api.Command{Kind: api.CmdClaim}, api.Answer{Code: 101})
		a.stands(1, states(api.Ready)...)
		if i := a.q.Dump(); i.NextToken != c.token {
			t.Errorf("the next token of %v is %d", c, i.NextToken)
		}
	}
}

// P12.1: the last lease of all, by its token and by its end.
func TestClaimLast(t *testing.T) {
	a := ask(t, loaded(t, api.Image{Now: most - 8, NextGraph: 1, NextToken: most - 1}), 1)
	a.do(api.Command{Kind: api.CmdSubmit, Graph: wide(2, "x")})
	a.is(api.Command{Kind: api.CmdClaim}, api.Answer{Id: 1, Token: most - 1, Until: most, Target: "t0", Command: "x0"})
	a.is(api.Command{Kind: api.CmdClaim}, api.Answer{Code: 101})
	a.is(api.Command{Kind: api.CmdRenew, Token: most - 1}, api.Answer{Id: 1, Token: most - 1, Until: most, Target: "t0"})
	a.advance(most - 7)
	a.is(api.Command{Kind: api.CmdRenew, Token: most - 1}, api.Answer{Code: 101})
	a.stands(1, leased(most-1, most), api.State{State: api.Ready})
	a.advance(most - 1)
	a.is(api.Command{Kind: api.CmdRenew, Token: most - 1}, api.Answer{Code: 101})
	a.is(api.Command{Kind: api.CmdReport, Token: most - 1, Good: true}, api.Answer{Id: 1, Target: "t0"})
	a.is(api.Command{Kind: api.CmdRenew, Token: most - 1}, api.Answer{Code: 100})
}

// P12.1: Renew puts off the end, of whichever graph the target is, and never moves it ahead.
func TestRenew(t *testing.T) {
	a := begin(t)
	a.do(api.Command{Kind: api.CmdSubmit, Graph: wide(3, "x")})
	a.do(api.Command{Kind: api.CmdSubmit, Graph: pair()})
	for range 4 {
		a.do(api.Command{Kind: api.CmdClaim})
	}
	a.is(api.Command{Kind: api.CmdRenew, Token: 4}, api.Answer{Id: 2, Token: 4, Until: 8, Target: "b"})
	a.advance(7)
	a.is(api.Command{Kind: api.CmdRenew, Token: 4}, api.Answer{Id: 2, Token: 4, Until: 15, Target: "b"})
	a.is(api.Command{Kind: api.CmdRenew, Token: 2}, api.Answer{Id: 1, Token: 2, Until: 15, Target: "t1"})
	a.stands(1, leased(1, 8), leased(2, 15), leased(3, 8))
	a.stands(2, api.State{}, leased(4, 15))
	a.advance(8)
	a.is(api.Command{Kind: api.CmdRenew, Token: 1}, api.Answer{Code: 100})
	a.is(api.Command{Kind: api.CmdRenew, Token: 3}, api.Answer{Code: 100})
	a.is(api.Command{Kind: api.CmdRenew, Token: 2}, api.Answer{Id: 1, Token: 2, Until: 16, Target: "t1"})
	q := loaded(t, a.q.Dump())
	b := &asker{t: t, q: q, session: 1, seq: a.seq}
	b.is(api.Command{Kind: api.CmdRenew, Token: 4}, api.Answer{Id: 2, Token: 4, Until: 16, Target: "b"})
}

// P12.1: a lease that lasts longer than one from now on stays as it is.
func TestRenewLonger(t *testing.T) {
	i := api.Image{Now: 5, NextGraph: 2, NextToken: 4, Graphs: []api.GraphRow{{Id: 1, Graph: single(), States: []api.State{leased(3, 100)}}}}
	a := ask(t, loaded(t, i), 1)
	a.is(api.Command{Kind: api.CmdRenew, Token: 3}, api.Answer{Id: 1, Token: 3, Until: 100, Target: "a"})
	a.stands(1, leased(3, 100))
}

// P12.1: a token that is not, or no longer, held is answered ErrLeaseStale; nothing but the session changes.
func TestStaleTokens(t *testing.T) {
	a := begin(t)
	a.do(api.Command{Kind: api.CmdSubmit, Graph: wide(5, "x")})
	for range 4 {
		a.do(api.Command{Kind: api.CmdClaim})
	}
	a.advance(4)
	a.do(api.Command{Kind: api.CmdReport, Token: 1, Good: true})
	a.do(api.Command{Kind: api.CmdReport, Token: 2})
	a.do(api.Command{Kind: api.CmdRenew, Token: 3})
	a.advance(8)
	a.stands(1, api.State{State: api.Done}, api.State{State: api.Failed}, leased(3, 12), api.State{State: api.Ready}, api.State{State: api.Ready})
	for _, token := range []uint64{0, 1, 2, 4, 5, 6, 8, 12, 1<<32 + 3, most} {
		for _, c := range []api.Command{{Kind: api.CmdRenew}, {Kind: api.CmdReport}, {Kind: api.CmdReport, Good: true}} {
			before := a.q.Dump()
			c.Token = token
			a.is(c, api.Answer{Code: 100})
			before.Sessions = []api.SessionRow{{Id: 1, Seq: a.seq, Answer: api.Answer{Code: 100}}}
			dumps(t, a.q, before)
		}
	}
	a.is(api.Command{Kind: api.CmdReport, Token: 3, Good: true}, api.Answer{Id: 1, Target: "t2"})
}

// P12.1: leases of a graph that is cancelled are held no more.
func TestCancelledTokens(t *testing.T) {
	a := begin(t)
	a.do(api.Command{Kind: api.CmdSubmit, Graph: single()})
	a.do(api.Command{Kind: api.CmdClaim})
	a.do(api.Command{Kind: api.CmdCancel, Id: 1})
	a.is(api.Command{Kind: api.CmdReport, Token: 1, Good: true}, api.Answer{Code: 100})
	a.is(api.Command{Kind: api.CmdRenew, Token: 1}, api.Answer{Code: 100})
	a.stands(1, states(api.Cancelled)...)
	if i := a.q.Dump(); len(i.Built) != 0 {
		t.Error("built is", i.Built)
	}
}

// P12.1: a good report makes what waited for it ready, and a bad one skips all that needs it.
func TestReport(t *testing.T) {
	a := begin(t)
	a.do(api.Command{Kind: api.CmdSubmit, Graph: diamond()})
	a.do(api.Command{Kind: api.CmdSubmit, Graph: wide(1, "x")})
	a.build("a", true)
	a.stands(1, states(api.Waiting, api.Ready, api.Ready, api.Done)...)
	a.do(api.Command{Kind: api.CmdClaim})
	a.do(api.Command{Kind: api.CmdClaim})
	a.is(api.Command{Kind: api.CmdReport, Token: 3}, api.Answer{Id: 1, Target: "c"})
	a.stands(1, api.State{State: api.Skipped}, leased(2, 8), api.State{State: api.Failed}, api.State{State: api.Done})
	a.is(api.Command{Kind: api.CmdReport, Token: 2, Good: true}, api.Answer{Id: 1, Target: "b"})
	a.stands(1, states(api.Skipped, api.Done, api.Failed, api.Done)...)
	a.stands(2, states(api.Ready)...)
	a.do(api.Command{Kind: api.CmdSubmit, Graph: read("c: b\nb: a\n\tcc b\na:\n\tcc z\n")})
	a.build("t0", true)
	a.build("a", false)
	a.stands(3, states(api.Skipped, api.Skipped, api.Failed)...)
}

// P12.1: only what was reported good is a built key, once, at its first place.
func TestBuilt(t *testing.T) {
	a := begin(t)
	is := func(want ...uint64) {
		t.Helper()
		if got := a.q.Dump().Built; !slices.Equal(got, want) {
			t.Errorf("built is %v, want %v", got, want)
		}
	}
	for _, n := range []int{4, 5, 4, 6, 7} {
		a.do(api.Command{Kind: api.CmdSubmit, Graph: named(n)})
	}
	is()
	a.build("a", true)
	is(keysOf(4)...)
	a.build("a", true)
	is(keysOf(4, 5)...)
	a.build("a", true)
	is(keysOf(4, 5)...)
	a.build("a", false)
	is(keysOf(4, 5)...)
	a.build("a", true)
	is(keysOf(4, 5, 7)...)
	a.do(api.Command{Kind: api.CmdSubmit, Graph: pair()})
	a.build("b", true)
	a.build("a", true)
	a.do(api.Command{Kind: api.CmdSubmit, Graph: read("z:\n\tcc b\ny: z\n\tcc a\nx:\n\tcc a\n")})
	a.stands(7, states(api.Done, api.Done, api.Ready)...)
}

// P12.1: of more than MaxBuilt keys the oldest one is forgotten; a key that is built already moves nothing.
func TestBuiltFull(t *testing.T) {
	var numbers []int
	for n := range 256 {
		numbers = append(numbers, n)
	}
	full := keysOf(numbers...)
	for _, n := range []int{0, 1, 128, 255} {
		i := api.Image{NextGraph: 2, NextToken: 2, Built: full, Graphs: []api.GraphRow{{Id: 1, Graph: named(n), States: []api.State{leased(1, 8)}}}}
		a := ask(t, loaded(t, i), 1)
		a.is(api.Command{Kind: api.CmdReport, Token: 1, Good: true}, api.Answer{Id: 1, Target: "a"})
		if got := a.q.Dump().Built; !slices.Equal(got, full) {
			t.Errorf("behind the key %d again, built is %v", n, got)
		}
	}
	a := ask(t, loaded(t, api.Image{NextGraph: 1, NextToken: 1, Built: full[:255]}), 1)
	for _, n := range []int{1000, 1001, 1002} {
		a.do(api.Command{Kind: api.CmdSubmit, Graph: named(n)})
		a.build("a", true)
		full = append(full[:255+max(0, n-1000)], keysOf(n)...)
	}
	if got := a.q.Dump().Built; !slices.Equal(got, full[2:]) || len(got) != 256 {
		t.Errorf("built is %v, want %v", got, full[2:])
	}
	for n, want := range []int{api.Ready, api.Ready, api.Done} {
		a.do(api.Command{Kind: api.CmdSubmit, Graph: named(n)})
		a.stands(uint64(4+n), states(want)...)
	}
}

// P12.1: many keys, one graph behind the other.
func TestBuiltMany(t *testing.T) {
	a := begin(t)
	for n := range 20 {
		a.do(api.Command{Kind: api.CmdSubmit, Graph: wide(32, fmt.Sprint("g", n, "-"))})
		for place := range 32 {
			a.build(fmt.Sprint("t", place), true)
		}
		a.is(api.Command{Kind: api.CmdCancel, Id: uint64(n + 1)}, api.Answer{Id: uint64(n + 1)})
		if got := a.q.Dump().Built; len(got) != min(256, 32*(n+1)) {
			t.Fatalf("behind %d graphs there are %d keys", n+1, len(got))
		}
	}
	for n, want := range map[int]int{11: api.Ready, 12: api.Done, 19: api.Done} {
		a.do(api.Command{Kind: api.CmdSubmit, Graph: wide(32, fmt.Sprint("g", n, "-"))})
		v := a.q.View(a.q.Dump().NextGraph - 1)
		if slices.ContainsFunc(v.States, func(s api.State) bool { return s.State != want }) {
			t.Errorf("graph %d again stands %v", n, v.States)
		}
	}
}

// P12.1: Cancel ends what is not over, and removes a graph that is over; others stay.
func TestCancel(t *testing.T) {
	a := begin(t)
	for range 3 {
		a.do(api.Command{Kind: api.CmdSubmit, Graph: diamond()})
	}
	a.build("a", true)
	a.build("b", false)
	a.do(api.Command{Kind: api.CmdClaim})
	a.stands(1, api.State{State: api.Skipped}, api.State{State: api.Failed}, leased(3, 8), api.State{State: api.Done})
	a.is(api.Command{Kind: api.CmdCancel, Id: 1}, api.Answer{Id: 1})
	a.stands(1, states(api.Skipped, api.Failed, api.Cancelled, api.Done)...)
	a.is(api.Command{Kind: api.CmdCancel, Id: 2}, api.Answer{Id: 2})
	a.stands(2, states(api.Cancelled, api.Cancelled, api.Cancelled, api.Cancelled)...)
	for _, id := range []uint64{0, 4, 1<<32 + 1, most} {
		a.is(api.Command{Kind: api.CmdCancel, Id: id}, api.Answer{Code: 121})
	}
	a.is(api.Command{Kind: api.CmdCancel, Id: 2}, api.Answer{Id: 2})
	a.is(api.Command{Kind: api.CmdCancel, Id: 2}, api.Answer{Code: 121})
	a.stands(1, states(api.Skipped, api.Failed, api.Cancelled, api.Done)...)
	a.stands(3, states(api.Waiting, api.Waiting, api.Waiting, api.Ready)...)
	a.is(api.Command{Kind: api.CmdCancel, Id: 1}, api.Answer{Id: 1})
	i := a.q.Dump()
	if len(i.Graphs) != 1 || i.Graphs[0].Id != 3 || i.NextGraph != 4 || len(i.Built) != 1 {
		t.Error("what is left is", i)
	}
	a.is(api.Command{Kind: api.CmdClaim}, api.Answer{Id: 3, Token: 4, Until: 8, Target: "a", Command: "cc a"})
}

// P12.1: a graph that was over from its start, by built keys alone, is removed at once.
func TestCancelFresh(t *testing.T) {
	a := begin(t)
	a.do(api.Command{Kind: api.CmdSubmit, Graph: single()})
	a.build("a", true)
	a.do(api.Command{Kind: api.CmdSubmit, Graph: single()})
	a.is(api.Command{Kind: api.CmdCancel, Id: 2}, api.Answer{Id: 2})
	if v := a.q.View(2); v.Code != 121 {
		t.Error("View of 2 answers", v)
	}
	a.stands(1, states(api.Done)...)
}
