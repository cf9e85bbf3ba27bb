package lease_test

import (
	"math/rand/v2"
	"testing"

	"dockyard/api"
	"dockyard/lease"
)

// P10.1: the next token is the one that was asked for, but never 0.
func TestNew(t *testing.T) {
	for _, next := range edges() {
		want := max(next, 1)
		o := lease.New(next)
		if o.Next() != want || o.Next() != want {
			t.Errorf("the next token of New(%d) is %d, want %d", next, o.Next(), want)
		}
		if o != lease.New(want) || o == lease.New(next^2) {
			t.Errorf("New(%d) is not the same as New(%d), or the same as New(%d)", next, want, next^2)
		}
	}
}

// P10.2: what the chapter's examples ask for, and the last lease of all.
func TestGrantExamples(t *testing.T) {
	for _, c := range []struct {
		next, now uint64
		behind    uint64
		s         api.State
		e         api.Errno
	}{
		{5, 3, 6, api.State{State: 2, Token: 5, Until: 11}, 0},
		{0, 0, 2, api.State{State: 2, Token: 1, Until: 8}, 0},
		{1, 0, 2, api.State{State: 2, Token: 1, Until: 8}, 0},
		{most, 0, most, api.State{}, 101},
		{most, most, most, api.State{}, 101},
		{1, most - 7, 1, api.State{}, 101},
		{1, most - 8, 2, api.State{State: 2, Token: 1, Until: most}, 0},
		{1, most, 1, api.State{}, 101},
		{most - 1, most - 8, most, api.State{State: 2, Token: most - 1, Until: most}, 0},
		{most - 1, most - 7, most - 1, api.State{}, 101},
		{0, most, 1, api.State{}, 101},
	} {
		o, s, e := lease.New(c.next).Grant(c.now)
		if o != lease.New(c.behind) || o.Next() != c.behind || s != c.s || e != c.e {
			t.Errorf("New(%d).Grant(%d) answers %v, %v, %v, want %d, %v, %v", c.next, c.now, o, s, e, c.behind, c.s, c.e)
		}
	}
}

// P10.2: each next token with each time.
func TestGrant(t *testing.T) {
	for _, next := range edges() {
		for _, now := range edges() {
			grants(t, lease.New(next), max(next, 1), now)
		}
	}
	r := rand.New(rand.NewPCG(10, 2))
	for range 2000 {
		next := 1 + r.Uint64()>>(1+r.IntN(63))
		grants(t, lease.New(next), next, r.Uint64()>>r.IntN(64))
	}
}

// P10.2: an office stays as it is, however often it is asked: only the one that was answered has gone on.
func TestGrantIsOfAValue(t *testing.T) {
	o := lease.New(5)
	same := o
	grant, next := o.Grant, o.Next
	for range 3 {
		if p, s, e := grant(3); p != lease.New(6) || s != leased(5, 11) || e != api.OK {
			t.Errorf("Grant answers %v, %v, %v", p, s, e)
		}
		if o != same || next() != 5 || o.Next() != 5 {
			t.Errorf("the office is %v, and was %v", o, same)
		}
	}
	o, _, _ = grant(3)
	if o == same || o.Next() != 6 || next() != 5 {
		t.Errorf("the office is %v, and its method of before answers %d", o, next())
	}
	if _, s, _ := o.Grant(3); s != leased(6, 11) {
		t.Errorf("the second lease is %v", s)
	}
	if _, s, _ := grant(4); s != leased(5, 12) {
		t.Errorf("the first office issues %v", s)
	}
}

// P10.4: along the resulting offices no token comes twice, at whatever times, and none is lost by a refusal.
func TestTokensIncrease(t *testing.T) {
	for _, first := range []uint64{0, 1, 5, 1<<32 - 100, 1<<63 - 100, most - 100, most - 1, most} {
		r := rand.New(rand.NewPCG(10, first))
		o, last, issued := lease.New(first), max(first, 1)-1, uint64(0)
		for range 300 {
			now := edges()[r.IntN(len(edges()))]
			p, s, e := o.Grant(now)
			if e != api.OK {
				grants(t, o, o.Next(), now)
				continue
			}
			if s.Token != last+1 || p.Next() <= s.Token || p == o {
				t.Fatalf("behind the token %d comes %v, and then %d", last, s, p.Next())
			}
			o, last, issued = p, s.Token, issued+1
		}
		if o.Next() != max(first, 1)+issued || issued > most-max(first, 1) {
			t.Errorf("from %d on, %d tokens were issued, and the next one is %d", first, issued, o.Next())
		}
	}
}

// P10.4: an office that was made anew from its next token goes on where it was.
func TestOfficeGoesOn(t *testing.T) {
	o := lease.New(0)
	for token := range uint64(100) {
		again := lease.New(o.Next())
		if again != o {
			t.Fatalf("New(%d) is %v, and not %v", o.Next(), again, o)
		}
		o = grants(t, again, token+1, token/3)
	}
}

// P10.4: when the last token was issued, it is over for good.
func TestTokensEnd(t *testing.T) {
	o := lease.New(most - 3)
	for back := range uint64(3) {
		o = grants(t, o, most-3+back, 8)
	}
	if o != lease.New(most) {
		t.Fatalf("the office behind the last token is %v", o)
	}
	for _, now := range edges() {
		o = grants(t, o, most, now)
	}
}
