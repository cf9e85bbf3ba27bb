package session_test

import (
	"math/rand/v2"
	"slices"
	"testing"

	"dockyard/api"
	"dockyard/session"
)

// P11.4: a table loaded from the rows of another one answers the same, whatever is asked.
func TestLoadedIsTheSame(t *testing.T) {
	r := rand.New(rand.NewPCG(11, 4))
	for range 300 {
		s, m := session.New(), &model{}
		for range r.IntN(150) {
			act(t, r, s, m)
		}
		rows := s.Rows()
		x := loaded(t, rows...)
		has(t, x, rows...)
		other := slices.Clone(*m)
		for range 100 {
			act(t, r, x, &other)
		}
		has(t, x, other.rows()...)
		has(t, s, rows...)
		for range 50 {
			act(t, r, s, m)
		}
		has(t, x, other.rows()...)
		if t.Failed() {
			return
		}
	}
}

// P11.4: the same calls on a table and on the loaded one have the same results to the end.
func TestLoadedGoesOn(t *testing.T) {
	r := rand.New(rand.NewPCG(11, 41))
	for range 300 {
		s, m := session.New(), &model{}
		for range r.IntN(100) {
			act(t, r, s, m)
		}
		x := loaded(t, s.Rows()...)
		for range 100 {
			id, seq, a := chance(r), chance(r), answer(r)
			if r.IntN(4) == 0 {
				opens(t, x, id, s.Open(id))
			}
			want, known, e := s.Look(id, seq)
			looks(t, x, id, seq, want, known, e)
			keeps(t, x, id, seq, a, s.Keep(id, seq, a))
		}
		has(t, x, s.Rows()...)
		if t.Failed() {
			return
		}
	}
}

// P11.4: a full table is full when it was loaded, and its last commands are known.
func TestLoadedEdges(t *testing.T) {
	s := session.New()
	for i := range 16 {
		opens(t, s, most-uint64(i), api.OK)
	}
	keeps(t, s, most, most, full, api.OK)
	keeps(t, s, most-1, 4, api.Answer{}, api.OK)
	x := loaded(t, s.Rows()...)
	opens(t, x, 1, api.ErrSessionFull)
	opens(t, x, most-15, api.OK)
	opens(t, x, 0, api.ErrArg)
	looks(t, x, most, most, full, true, api.OK)
	keeps(t, x, most, most, api.Answer{}, api.ErrSessionOld)
	looks(t, x, most-1, 4, api.Answer{}, true, api.OK)
	looks(t, x, most-1, 3, api.Answer{}, false, api.ErrSessionOld)
	looks(t, x, most-2, 0, api.Answer{}, false, api.ErrSessionOld)
	looks(t, x, most-2, 1, api.Answer{}, false, api.OK)
	looks(t, x, most-16, 1, api.Answer{}, false, api.ErrSessionNone)
	has(t, x, s.Rows()...)
}

// P11.4: a table without sessions is loaded from no rows, and can be used.
func TestLoadedEmpty(t *testing.T) {
	for _, l := range [][]api.SessionRow{session.New().Rows(), nil, {}} {
		x := loaded(t, l...)
		looks(t, x, 5, 1, api.Answer{}, false, api.ErrSessionNone)
		opens(t, x, 5, api.OK)
		keeps(t, x, 5, 1, full, api.OK)
		has(t, x, api.SessionRow{Id: 5, Seq: 1, Answer: full})
	}
}
