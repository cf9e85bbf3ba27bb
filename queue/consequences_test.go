package queue_test

import (
	"slices"
	"testing"

	"dockyard/api"
	"dockyard/queue"
)

// P12.1: any commands, held against the plain model.
func TestRandom(t *testing.T) {
	for seed := range uint64(60) {
		r, q, m := newChance(seed), queue.New(), newModel()
		for range 300 {
			r.act(t, q, m)
		}
	}
}

// P12.1: any commands near the greatest numbers.
func TestRandomLast(t *testing.T) {
	for seed := range uint64(60) {
		r := newChance(100 + seed)
		i := api.Image{Now: most - r.Uint64N(60), NextGraph: most - r.Uint64N(30), NextToken: most - r.Uint64N(30)}
		q, m := loaded(t, i), modelOf(i)
		for range 200 {
			r.act(t, q, m)
		}
	}
}

// outcomes answers the states of all targets that are done or failed by now, by graph and place.
func outcomes(i api.Image) map[[2]uint64]int {
	l := map[[2]uint64]int{}
	for _, row := range i.Graphs {
		for place, s := range row.States {
			if s.State >= api.Done {
				l[[2]uint64{row.Id, uint64(place)}] = s.State
			}
		}
	}
	return l
}

// P12.4: tokens increase, whatever happens between the claims.
func TestTokensIncrease(t *testing.T) {
	for seed := range uint64(40) {
		r, q, m, last := newChance(200+seed), queue.New(), newModel(), uint64(0)
		for range 300 {
			before := q.Dump().Sessions
			c, a := r.act(t, q, m)
			if c.Kind != api.CmdClaim || a.Code != api.OK || slices.Contains(before, api.SessionRow{Id: c.Session, Seq: c.Seq, Answer: a}) {
				continue
			}
			if a.Token <= last {
				t.Fatalf("behind the token %d comes %d", last, a.Token)
			}
			last = a.Token
		}
	}
}

// P12.4: what is final stays as it is; what becomes done or failed, but for what is fresh at its start, does so by a report with the token of its lease ahead of its end.
func TestFinalStays(t *testing.T) {
	for seed := range uint64(40) {
		r, q, m := newChance(300+seed), queue.New(), newModel()
		for range 300 {
			before := kept(q.Dump())
			c, a := r.act(t, q, m)
			was, now := outcomes(before), outcomes(q.Dump())
			for at, kind := range was {
				if is, there := now[at]; is != kind && (there || c.Kind != api.CmdCancel) {
					t.Fatalf("the target %v was %d and is %d behind the command %v", at, kind, is, c)
				}
			}
			for at, kind := range now {
				if _, there := was[at]; there || kind > api.Failed || c.Kind == api.CmdSubmit && at[0] == a.Id {
					continue
				}
				place := slices.IndexFunc(before.Graphs, func(row api.GraphRow) bool { return row.Id == at[0] })
				s := before.Graphs[place].States[at[1]]
				if c.Kind != api.CmdReport || s.State != api.Leased || s.Token != c.Token || s.Until <= before.Now || c.Good != (kind == api.Done) {
					t.Fatalf("the target %v was %v at %d and is %d behind the command %v", at, s, before.Now, kind, c)
				}
			}
		}
	}
}

// P12.4: the last command of a session, repeated at once or behind those of other sessions, changes nothing and answers the same.
func TestRepeated(t *testing.T) {
	for seed := range uint64(40) {
		r, q, m := newChance(400+seed), queue.New(), newModel()
		for range 200 {
			r.act(t, q, m)
			before := kept(q.Dump())
			for _, row := range before.Sessions {
				c := r.command(m)
				c.Session, c.Seq = row.Id, row.Seq
				if row.Seq == 0 || c.Kind == api.CmdOpen || c.Kind == api.CmdAdvance {
					continue
				}
				if got := q.Apply(c); got != row.Answer {
					t.Fatalf("the command %v is answered %v again, want %v", c, got, row.Answer)
				}
			}
			dumps(t, q, before)
		}
	}
}

// P12.5: Load accepts the dump of every queue, and what it answers goes on in the same way; so does a clone.
func TestLoadedGoesOn(t *testing.T) {
	for seed := range uint64(60) {
		r, q, m := newChance(500+seed), queue.New(), newModel()
		for range 10 {
			for range r.IntN(40) {
				r.act(t, q, m)
			}
			x, y := loaded(t, q.Dump()), q.Clone()
			for range 20 {
				c, want := r.act(t, q, m)
				if a, b := x.Apply(c), y.Apply(c); a != want || b != want {
					t.Fatalf("the command %v is answered %v and %v, want %v", c, a, b, want)
				}
			}
			dumps(t, x, q.Dump())
			dumps(t, y, q.Dump())
			q = []*queue.Queue{q, x, y}[r.IntN(3)]
		}
	}
}

// P12.5: a queue that was loaded from an image by hand, whose states no commands come to, goes on as its model.
func TestLoadedByHand(t *testing.T) {
	for seed := range uint64(40) {
		r := newChance(600 + seed)
		i := right()
		i.Graphs[0].States = append(states(api.Ready, api.Ready, api.Done, api.Skipped)[r.IntN(4):][:1], leased(6, 5))
		q, m := loaded(t, i), modelOf(i)
		for range 100 {
			r.act(t, q, m)
			loaded(t, q.Dump())
		}
	}
}

// P12.5: the same commands on two queues come to the same.
func TestSameCommands(t *testing.T) {
	r, q, m, p := newChance(700), queue.New(), newModel(), queue.New()
	for range 500 {
		c, want := r.act(t, q, m)
		if got := p.Apply(c); got != want {
			t.Fatalf("the command %v is answered %v, want %v", c, got, want)
		}
	}
	dumps(t, p, q.Dump())
}
