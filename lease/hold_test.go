package lease_test

import (
	"math/rand/v2"
	"testing"

	"dockyard/api"
	"dockyard/lease"
)

// P10.3: only the token of the lease holds it, and only ahead of its end.
func TestHoldsExamples(t *testing.T) {
	for _, c := range []struct {
		s          api.State
		token, now uint64
		want       bool
	}{
		{leased(5, 11), 5, 10, true}, {leased(5, 11), 5, 11, false}, {leased(5, 11), 4, 10, false},
		{leased(5, 11), 5, 0, true}, {leased(5, 11), 5, 12, false}, {leased(5, 11), 5, most, false},
		{leased(5, 11), 6, 10, false}, {leased(5, 11), 0, 10, false}, {leased(5, 11), 1<<32 + 5, 10, false}, {leased(5, 11), 11, 5, false},
		{leased(0, 11), 0, 10, false}, {leased(0, most), 0, 0, false}, {leased(0, 11), 5, 10, false},
		{leased(5, 0), 5, 0, false}, {leased(5, 1), 5, 0, true},
		{leased(most, most), most, most - 1, true}, {leased(most, most), most, most, false},
		{leased(1<<63, 1<<63), 1 << 63, 1<<63 - 1, true}, {leased(1, 1<<63), 1, 5, true}, {leased(1, 5), 1, 1 << 63, false},
		{api.State{}, 0, 0, false}, {api.State{State: api.Ready}, 0, 0, false},
	} {
		if got := lease.Holds(c.s, c.token, c.now); got != c.want {
			t.Errorf("Holds of %v for %d at %d answers %v", c.s, c.token, c.now, got)
		}
		if _, e := lease.Renew(c.s, c.token, c.now); !c.want && e != api.ErrLeaseStale {
			t.Errorf("Renew of %v for %d at %d answers %v", c.s, c.token, c.now, e)
		}
	}
}

// P10.3: what is no lease is not held, whatever else stands in it.
func TestOthersAreNotHeld(t *testing.T) {
	for _, kind := range others() {
		for _, token := range []uint64{0, 1, 5, most} {
			s := api.State{State: kind, Token: token, Until: most}
			for _, now := range []uint64{0, 10, most - 8, most - 7, most - 1, most} {
				if got, e := lease.Renew(s, token, now); lease.Holds(s, token, now) || got != (api.State{}) || e != api.ErrLeaseStale {
					t.Errorf("%v is held by %d at %d, or renewed: %v, %v", s, token, now, got, e)
				}
			}
		}
	}
}

// P10.3: a lease lasts longer, but never less long, than it did; a lost one comes ahead of times that are too late.
func TestRenewExamples(t *testing.T) {
	for _, c := range []struct {
		s          api.State
		token, now uint64
		want       api.State
		e          api.Errno
	}{
		{leased(5, 11), 5, 4, leased(5, 12), 0}, {leased(5, 11), 5, 10, leased(5, 18), 0},
		{leased(5, 11), 5, 3, leased(5, 11), 0}, {leased(5, 11), 5, 2, leased(5, 11), 0}, {leased(5, 11), 5, 0, leased(5, 11), 0},
		{leased(5, most), 5, 0, leased(5, most), 0}, {leased(5, most-1), 5, most - 9, leased(5, most-1), 0},
		{leased(5, most-1), 5, most - 8, leased(5, most), 0}, {leased(5, most), 5, most - 8, leased(5, most), 0},
		{leased(most, 9), most, 8, leased(most, 16), 0},
		{leased(5, most), 5, most - 7, api.State{}, 101}, {leased(5, most), 5, most - 1, api.State{}, 101}, {leased(5, most-6), 5, most - 7, api.State{}, 101},
		{leased(5, most), 5, most, api.State{}, 100}, {leased(5, most), 4, most - 7, api.State{}, 100}, {leased(5, most-7), 5, most - 7, api.State{}, 100},
		{leased(0, most), 0, most - 7, api.State{}, 100}, {leased(5, 11), 5, 11, api.State{}, 100}, {leased(5, 11), 5, most, api.State{}, 100},
	} {
		given := c.s
		if got, e := lease.Renew(given, c.token, c.now); got != c.want || e != c.e || given != c.s {
			t.Errorf("Renew of %v for %d at %d answers %v, %v, want %v, %v", c.s, c.token, c.now, got, e, c.want, c.e)
		}
	}
}

// P10.3: each lease with tokens and times about its own.
func TestHoldsRenew(t *testing.T) {
	for _, token := range []uint64{0, 1, 5, 1 << 32, 1 << 63, most} {
		for _, until := range edges() {
			for _, now := range edges() {
				for _, asked := range []uint64{token, token + 1, token - 1, 0, until} {
					answers(t, leased(token, until), asked, now)
				}
			}
		}
	}
}

// P10.3: states, tokens and times by chance, small ones and great ones.
func TestHoldsRenewRandom(t *testing.T) {
	r := rand.New(rand.NewPCG(10, 3))
	for range 20000 {
		base := []uint64{0, 1 << 32, 1<<63 - 9, most - 17}[r.IntN(4)]
		s := api.State{State: []int{api.Leased, api.Leased, r.IntN(7)}[r.IntN(3)], Token: r.Uint64N(3), Until: base + r.Uint64N(18)}
		answers(t, s, r.Uint64N(3), base+r.Uint64N(18))
	}
}

// P10.2, P10.3: what was granted is held by its token until its end, and then by nobody; renewing puts off the end alone.
func TestLeaseFromOffice(t *testing.T) {
	o := lease.New(5)
	for _, now := range []uint64{0, 3, 1 << 63, most - 8} {
		_, s, _ := o.Grant(now)
		for ahead := range uint64(8) {
			again, e := lease.Renew(s, 5, now+ahead)
			if want, there := later(now+ahead, 8); there && (again != leased(5, want) || e != api.OK) {
				t.Errorf("Renew of %v at %d answers %v, %v", s, now+ahead, again, e)
			}
			if !lease.Holds(s, 5, now+ahead) || lease.Holds(s, 4, now+ahead) || lease.Holds(s, 6, now+ahead) {
				t.Errorf("%v is not held by 5 alone at %d", s, now+ahead)
			}
		}
		if _, e := lease.Renew(s, 5, now+8); lease.Holds(s, 5, now+8) || e != api.ErrLeaseStale {
			t.Errorf("%v is held at its end, or renewed: %v", s, e)
		}
	}
}
