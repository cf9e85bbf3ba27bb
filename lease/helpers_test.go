package lease_test

import (
	"math"
	"math/big"
	"testing"

	"dockyard/api"
	"dockyard/lease"
)

const most = math.MaxUint64

func leased(token, until uint64) api.State {
	return api.State{State: api.Leased, Token: token, Until: until}
}

// others answers the kinds of states that are no lease, and numbers that are no kind.
func others() []int {
	return []int{api.Waiting, api.Ready, api.Done, api.Failed, api.Skipped, api.Cancelled, -1, 7, 8, -api.Leased, 256 + api.Leased, 1<<32 + api.Leased, math.MaxInt, math.MinInt}
}

// edges answers numbers where something changes: at 0, at the ends of narrower numbers, and about the last time of a lease.
func edges() []uint64 {
	l := []uint64{0, 1, 2, 3, 5, 7, 8, 9, 10, 11, 15, 16, 17, math.MaxUint32 - 1, math.MaxUint32, 1 << 32, math.MaxInt64 - 8, math.MaxInt64, 1 << 63, 1<<63 + 1}
	for back := range uint64(19) {
		l = append(l, most-back)
	}
	return l
}

// later answers the sum, and whether it is a number of 64 bits.
func later(now, more uint64) (uint64, bool) {
	sum := new(big.Int).Add(new(big.Int).SetUint64(now), new(big.Int).SetUint64(more))
	return sum.Uint64(), sum.IsUint64()
}

// grants fails the test unless the office grants what the document asks of one whose next token is that; it answers the office behind.
func grants(t *testing.T, o lease.Office, next, now uint64) lease.Office {
	t.Helper()
	before := o
	p, s, e := o.Grant(now)
	token, tokens := later(next, 1)
	until, times := later(now, 8)
	switch full := !tokens || !times; {
	case full && (e != api.ErrLeaseFull || p != o || s != api.State{}):
		t.Errorf("Grant of %d at %d answers %v, %v, %v, want ErrLeaseFull and the same office", next, now, p, s, e)
	case !full && (e != api.OK || p.Next() != token || s != leased(next, until)):
		t.Errorf("Grant of %d at %d answers %v, %v, %v, want %v and the next token %d", next, now, p, s, e, leased(next, until), token)
	}
	if o != before || o.Next() != next {
		t.Errorf("Grant of %d at %d has changed its office to %v", next, now, o)
	}
	return p
}

// holds answers what the document asks of Holds.
func holds(s api.State, token, now uint64) bool {
	return s.State == 2 && token == s.Token && token > 0 && s.Until > now
}

// renewed answers what the document asks of Renew.
func renewed(s api.State, token, now uint64) (api.State, api.Errno) {
	if !holds(s, token, now) {
		return api.State{}, 100
	}
	until, there := later(now, 8)
	if !there {
		return api.State{}, 101
	}
	if until > s.Until {
		s.Until = until
	}
	return s, 0
}

// answers fails the test unless Holds and Renew answer what the document asks.
func answers(t *testing.T, s api.State, token, now uint64) {
	t.Helper()
	if got, want := lease.Holds(s, token, now), holds(s, token, now); got != want {
		t.Errorf("Holds of %v for %d at %d answers %v, want %v", s, token, now, got, want)
	}
	got, e := lease.Renew(s, token, now)
	if want, wantError := renewed(s, token, now); got != want || e != wantError {
		t.Errorf("Renew of %v for %d at %d answers %v, %v, want %v, %v", s, token, now, got, e, want, wantError)
	}
}
