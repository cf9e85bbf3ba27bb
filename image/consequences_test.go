package image_test

import (
	"bytes"
	"fmt"
	"math/rand/v2"
	"slices"
	"testing"

	"dockyard/api"
	"dockyard/entry"
	"dockyard/image"
	"dockyard/queue"
)

// chance is a source of commands that entry.Right accepts and that hit what there is often.
type chance struct {
	*rand.Rand
	seqs map[uint64]uint64
}

func newChance(seed uint64) *chance {
	return &chance{Rand: rand.New(rand.NewPCG(13, seed)), seqs: map[uint64]uint64{}}
}

func (r *chance) command(i api.Image) api.Command {
	c := api.Command{Kind: 1 + r.IntN(7)}
	if c.Kind == api.CmdAdvance {
		c.Time = i.Now + min(most-i.Now, r.Uint64N(4))
		return c
	}
	c.Session = 1 + r.Uint64N(4)
	if c.Kind == api.CmdOpen {
		return c
	}
	r.seqs[c.Session] += r.Uint64N(3)
	c.Seq = r.seqs[c.Session]
	switch c.Kind {
	case api.CmdSubmit:
		c.Graph = r.graph()
	case api.CmdRenew, api.CmdReport:
		c.Token = i.NextToken - min(i.NextToken, r.Uint64N(4))
		c.Good = c.Kind == api.CmdReport && r.IntN(4) > 0
	case api.CmdCancel:
		c.Id = i.NextGraph - min(i.NextGraph, r.Uint64N(8))
	}
	return c
}

// graph answers a graph whose targets need some of those with smaller names; now and then one that is not valid.
func (r *chance) graph() api.Graph {
	var g api.Graph
	for n := range r.IntN(5) {
		target := api.Target{Name: string(rune('a' + n)), Command: fmt.Sprint("cc ", r.IntN(9))}
		for need := range n {
			if r.IntN(3) == 0 {
				target.Needs = append(target.Needs, string(rune('a'+need)))
			}
		}
		g.Targets = append(g.Targets, target)
	}
	if n := len(g.Targets); n > 0 && r.IntN(15) == 0 {
		g.Targets[0].Needs = []string{string(rune('a' + r.IntN(7)))}
	}
	return g
}

// apply applies a command, which must be one that entry.Right accepts.
func apply(t *testing.T, q *queue.Queue, c api.Command) api.Answer {
	t.Helper()
	if !entry.Right(c) {
		t.Fatalf("the command %+v is not right", c)
	}
	return q.Apply(c)
}

// goesRound fails the test unless the dump of a queue is encodable, and comes back from its encoding; it answers the encoding.
func goesRound(t *testing.T, q *queue.Queue) []byte {
	t.Helper()
	i := q.Dump()
	b := encoded(t, i)
	is(t, "a dump", i, layoutOf(i).b)
	if again := encoded(t, decoded(t, b)); !bytes.Equal(again, b) {
		t.Errorf("the bytes % x become % x", b, again)
	}
	if t.Failed() {
		t.FailNow()
	}
	return b
}

// P13.3: the dumps of queues behind any commands come back, and a queue that is loaded from what came back goes on in the same way.
func TestDumps(t *testing.T) {
	for seed := range uint64(40) {
		r, q := newChance(seed), queue.New()
		if seed%4 == 3 {
			q, _ = queue.Load(api.Image{Now: most - 30, NextGraph: most - 20, NextToken: most - 20})
		}
		for range 200 {
			b := goesRound(t, q)
			x, e := queue.Load(decoded(t, b))
			if e != api.OK {
				t.Fatalf("Load answers %d", e)
			}
			c := r.command(q.Dump())
			if a, want := x.Apply(c), apply(t, q, c); a != want || !same(x.Dump(), q.Dump()) {
				t.Fatalf("the command %v is answered %v, want %v", c, a, want)
			}
		}
	}
}

// P13.3: the dump of a queue that has as much in it as commands bring there.
func TestFullQueue(t *testing.T) {
	q := queue.New()
	seqs := make([]uint64, api.MaxSessions+1)
	do := func(session uint64, c api.Command) api.Answer {
		seqs[session]++
		c.Session, c.Seq = session, seqs[session]
		return apply(t, q, c)
	}
	for session := range uint64(api.MaxSessions + 1) {
		apply(t, q, api.Command{Kind: api.CmdOpen, Session: session + 1})
	}
	for n := range api.MaxGraphs + 1 {
		do(1, api.Command{Kind: api.CmdSubmit, Graph: fullest(n)})
	}
	goesRound(t, q)
	for n := range api.MaxBuilt + 10 {
		session := uint64(1 + n%api.MaxSessions)
		a := do(session, api.Command{Kind: api.CmdClaim})
		if a.Code != api.OK || len(a.Target) != api.MaxName || len(a.Command) != api.MaxText {
			t.Fatal("Claim is answered", a)
		}
		if n%16 == 0 {
			goesRound(t, q)
		}
		do(session, api.Command{Kind: api.CmdReport, Token: a.Token, Good: true})
	}
	for session := range uint64(api.MaxSessions) {
		do(session+1, api.Command{Kind: api.CmdClaim})
	}
	i := q.Dump()
	if len(i.Sessions) != api.MaxSessions || len(i.Graphs) != api.MaxGraphs || len(i.Built) != api.MaxBuilt {
		t.Errorf("%d sessions, %d graphs, %d keys", len(i.Sessions), len(i.Graphs), len(i.Built))
	}
	goesRound(t, q)
}

// P13.3: every code that a queue keeps fits, and so do commands with the longest texts that are right, be their graphs valid or not.
func TestRefusalsKept(t *testing.T) {
	q := queue.New()
	codes := map[api.Errno]bool{}
	for n, c := range []api.Command{
		{Kind: api.CmdSubmit},
		{Kind: api.CmdSubmit, Graph: api.Graph{Targets: []api.Target{{Name: "a", Needs: []string{"b"}}}}},
		{Kind: api.CmdSubmit, Graph: api.Graph{Targets: []api.Target{{Name: "a", Needs: []string{"a"}}}}},
		{Kind: api.CmdSubmit, Graph: fullest(0)},
		{Kind: api.CmdClaim},
		{Kind: api.CmdClaim},
		{Kind: api.CmdRenew, Token: 1},
		{Kind: api.CmdRenew, Token: 9},
		{Kind: api.CmdReport, Token: 9},
		{Kind: api.CmdReport, Token: 1, Good: true},
		{Kind: api.CmdCancel, Id: 9},
		{Kind: api.CmdCancel, Id: 1},
	} {
		c.Session, c.Seq = 1, uint64(n+1)
		apply(t, q, api.Command{Kind: api.CmdOpen, Session: 1})
		codes[apply(t, q, c).Code] = true
		goesRound(t, q)
	}
	for _, code := range []api.Errno{api.OK, api.ErrGraphForm, api.ErrGraphNeed, api.ErrGraphCycle, api.ErrQueueIdle, api.ErrLeaseStale, api.ErrQueueNone} {
		if !codes[code] {
			t.Errorf("no command was answered %d", code)
		}
	}
}

// P13.3: images by hand, with any answers in their sessions, come back.
func TestAnyAnswers(t *testing.T) {
	r := rand.New(rand.NewPCG(13, 100))
	text := func(most int) string {
		b := make([]byte, r.IntN(most+1))
		for n := range b {
			b[n] = byte(r.IntN(256))
		}
		return string(b)
	}
	number := func() uint64 { return r.Uint64() >> r.IntN(64) }
	for range 2000 {
		i := right()
		for n := range i.Sessions {
			i.Sessions[n].Seq = max(1, number())
			i.Sessions[n].Answer = api.Answer{Code: api.Errno(r.IntN(256)), Id: number(), Token: number(), Until: number(), Target: text(api.MaxName), Command: text(api.MaxText)}
		}
		i.NextGraph, i.NextToken, i.Built = max(9, number()), max(7, number()), []uint64{number(), most}
		is(t, "any answers", i, layoutOf(i).b)
	}
}

// damaged answers b with a few changes: bytes set, taken away or put in.
func damaged(r *rand.Rand, b []byte) []byte {
	b = bytes.Clone(b)
	for range 1 + r.IntN(2) {
		at := r.IntN(len(b))
		switch r.IntN(6) {
		case 0:
			b = slices.Insert(b, at, byte(r.IntN(256)))
		case 1:
			b = slices.Delete(b, at, at+1)
		case 2:
			b[at] = byte(r.IntN(256))
		case 3:
			b[at] = byte(r.IntN(8))
		default:
			b[at] ^= 1 << r.IntN(8)
		}
	}
	return b
}

// P13.3, R1: what is read of damaged bytes is written as the same bytes; all else is refused.
func TestDamaged(t *testing.T) {
	r := rand.New(rand.NewPCG(13, 101))
	read, all := 0, [][]byte{encoded(t, right()), encoded(t, queue.New().Dump()), encoded(t, withAnswer(longest()))}
	for n := range 60000 {
		b := damaged(r, all[n%len(all)])
		i, e := image.Decode(b)
		if e != api.OK {
			none(t, "damaged", b)
			continue
		}
		read++
		if !bytes.Equal(encoded(t, i), b) || !bytes.Equal(layoutOf(i).b, b) {
			t.Fatalf("% x is read as %+v", b, i)
		}
		if _, e := queue.Load(i); e != api.OK {
			t.Fatalf("% x is read as what Load refuses with %d", b, e)
		}
	}
	if read < 1000 {
		t.Errorf("only %d were read", read)
	}
}
