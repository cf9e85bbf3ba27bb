package ready_test

import (
	"math"
	"math/rand/v2"
	"slices"
	"testing"

	"dockyard/api"
	"dockyard/ready"
)

// sampled answers a state of each kind, and some of no kind, all with a token and this time.
func sampled(until uint64) []api.State {
	var l []api.State
	for i, kind := range append(kinds(), unknown()...) {
		l = append(l, api.State{State: kind, Token: uint64(i), Until: until})
	}
	return l
}

// P9.3: a lease is over once the time is not less than its Until; nothing else changes.
func TestExpire(t *testing.T) {
	times := []uint64{0, 1, 4, 5, 6, 1 << 32, math.MaxInt64, 1 << 63, math.MaxUint64 - 1, math.MaxUint64}
	for _, now := range times {
		for _, until := range times {
			l := sampled(until)
			want := slices.Clone(l)
			if place := slices.Index(kinds(), api.Leased); until <= now {
				want[place] = api.State{State: api.Ready}
			}
			if got := ready.Expire(l, now); !slices.Equal(got, want) {
				t.Errorf("Expire of %v at %d answers %v, want %v", l, now, got, want)
			}
			if !slices.Equal(l, sampled(until)) {
				t.Errorf("Expire has changed its states to %v", l)
			}
		}
	}
}

// P9.3: each of several leases ends by its own time, also beside equal ones.
func TestExpireSeveral(t *testing.T) {
	lease := func(token, until uint64) api.State {
		return api.State{State: api.Leased, Token: token, Until: until}
	}
	over := api.State{State: api.Ready}
	l := []api.State{lease(3, 5), lease(4, 6), {State: api.Done}, lease(5, 4), lease(6, 5), lease(7, 5)}
	for _, c := range []struct {
		now  uint64
		want []api.State
	}{
		{3, l},
		{4, []api.State{l[0], l[1], l[2], over, l[4], l[5]}},
		{5, []api.State{over, l[1], l[2], over, over, over}},
		{6, []api.State{over, over, l[2], over, over, over}},
	} {
		got := ready.Expire(l, c.now)
		if !slices.Equal(got, c.want) {
			t.Errorf("Expire at %d answers %v, want %v", c.now, got, c.want)
		}
		if again := ready.Expire(got, c.now); !slices.Equal(again, got) {
			t.Errorf("Expire twice at %d answers %v, and %v once", c.now, again, got)
		}
	}
}

// P9.3: what is not final is cancelled, without its lease; what is final stays whole.
func TestCancel(t *testing.T) {
	l := sampled(5)
	var want []api.State
	for _, s := range l {
		if !slices.Contains(append(bad(), api.Done), s.State) {
			s = api.State{State: api.Cancelled}
		}
		want = append(want, s)
	}
	got := ready.Cancel(l)
	if !slices.Equal(got, want) || !slices.Equal(l, sampled(5)) {
		t.Errorf("Cancel of %v answers %v, want %v", sampled(5), got, want)
	}
	if again := ready.Cancel(got); !slices.Equal(again, got) || !ready.Over(got) {
		t.Errorf("Cancel of %v answers %v", got, again)
	}
}

// P9.3: the first state that is ready, wherever it is and whatever else stands in it.
func TestNext(t *testing.T) {
	for _, c := range []struct {
		kinds []int
		place int
		there bool
	}{
		{nil, 0, false}, {[]int{api.Ready}, 0, true}, {[]int{api.Waiting}, 0, false},
		{[]int{api.Leased, api.Ready}, 1, true}, {[]int{api.Ready, api.Ready}, 0, true},
		{[]int{api.Waiting, api.Done, api.Ready, api.Failed, api.Ready}, 2, true},
		{[]int{api.Waiting, api.Leased, api.Done, api.Failed, api.Skipped, api.Cancelled}, 0, false},
		{unknown(), 0, false}, {append(unknown(), api.Ready), len(unknown()), true},
	} {
		if place, there := ready.Next(bare(c.kinds...)); place != c.place || there != c.there {
			t.Errorf("Next of %v answers %d, %v, want %d, %v", c.kinds, place, there, c.place, c.there)
		}
	}
	for n := range 100 {
		l := make([]api.State, 100)
		l[n] = api.State{State: api.Ready, Token: 3, Until: 5}
		if place, there := ready.Next(l); place != n || !there {
			t.Errorf("Next of a list ready at %d answers %d, %v", n, place, there)
		}
	}
}

// P9.3: four kinds are final, and states are over when all of them are.
func TestFinalOver(t *testing.T) {
	for _, s := range sampled(5) {
		want := slices.Contains([]int{3, 4, 5, 6}, s.State)
		if got := ready.Final(s); got != want {
			t.Errorf("Final of %v answers %v", s, got)
		}
		for n := range 4 {
			l := slices.Insert(bare(api.Done, api.Failed, api.Cancelled), n, s)
			if got := ready.Over(l); got != want {
				t.Errorf("Over of %v answers %v", l, got)
			}
		}
	}
	if !ready.Over(nil) || !ready.Over([]api.State{}) || !ready.Over(bare(3, 4, 5, 6)) || ready.Over(bare(0, 1)) {
		t.Error("Over of none, of all that are final, or of some that are not")
	}
}

// P9.3: lists by chance, also longer than a graph's, state by state.
func TestStatesRandom(t *testing.T) {
	r := rand.New(rand.NewPCG(9, 5))
	for range 2000 {
		l := randomStates(r, r.IntN(100))
		now := r.Uint64N(9)
		expired, cancelled := ready.Expire(l, now), ready.Cancel(l)
		if len(expired) != len(l) || len(cancelled) != len(l) {
			t.Fatalf("of %d states Expire answers %d, and Cancel %d", len(l), len(expired), len(cancelled))
		}
		first, over := -1, true
		for place, s := range l {
			wantExpired, wantCancelled := s, s
			if s.State == api.Leased && s.Until <= now {
				wantExpired = api.State{State: api.Ready}
			}
			if s.State < api.Done {
				wantCancelled, over = api.State{State: api.Cancelled}, false
			}
			if s.State == api.Ready && first < 0 {
				first = place
			}
			if expired[place] != wantExpired || cancelled[place] != wantCancelled {
				t.Fatalf("of %v at %d Expire answers %v, and Cancel %v", s, now, expired[place], cancelled[place])
			}
		}
		if place, there := ready.Next(l); place != max(first, 0) || there != (first >= 0) {
			t.Errorf("Next of %v answers %d, %v", l, place, there)
		}
		if ready.Over(l) != over {
			t.Errorf("Over of %v answers %v", l, !over)
		}
	}
}

// P9.3: of no states there are none.
func TestStatesNone(t *testing.T) {
	for _, l := range [][]api.State{nil, {}, bare(api.Leased, api.Ready)[:0]} {
		if expired, cancelled := ready.Expire(l, 9), ready.Cancel(l); len(expired)+len(cancelled) != 0 {
			t.Errorf("of no states Expire answers %v, and Cancel %v", expired, cancelled)
		}
		if place, there := ready.Next(l); place != 0 || there || !ready.Over(l) {
			t.Errorf("of no states Next answers %d, %v", place, there)
		}
	}
}

// R5: the states stay as they are, with what is behind their end, and results are new memory, also where nothing changes.
func TestStatesAreNew(t *testing.T) {
	whole := []api.State{{State: api.Leased, Token: 3, Until: 5}, {State: api.Done}, {State: api.Leased, Token: 4, Until: 5}, {State: api.Ready}}
	before := slices.Clone(whole)
	for n := range len(whole) + 1 {
		for _, now := range []uint64{4, 5} {
			fill(ready.Expire(whole[:n], now), api.State{State: 7})
			fill(ready.Cancel(whole[:n]), api.State{State: 7})
			ready.Next(whole[:n])
			ready.Over(whole[:n])
			if !slices.Equal(whole, before) {
				t.Fatalf("the states are %v, and were %v", whole, before)
			}
		}
	}
	fill(ready.Cancel(whole[1:2]), api.State{State: 7})
	if one, other := ready.Expire(before, 5), ready.Expire(before, 5); &one[0] == &other[0] || !slices.Equal(whole, before) {
		t.Error("two results share memory")
	}
}
