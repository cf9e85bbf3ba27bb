package session_test

import (
	"math/rand/v2"
	"testing"

	"dockyard/api"
	"dockyard/session"
)

// The chapter's examples.
func TestExamples(t *testing.T) {
	s := session.New()
	opens(t, s, 0, 1)
	looks(t, s, 5, 1, api.Answer{}, false, 110)
	opens(t, s, 5, 0)
	opens(t, s, 5, 0)
	looks(t, s, 5, 1, api.Answer{}, false, 0)

	s = opened(t, 5)
	keeps(t, s, 5, 2, full, 0)
	looks(t, s, 5, 2, full, true, 0)
	looks(t, s, 5, 1, api.Answer{}, false, 111)
	looks(t, s, 5, 3, api.Answer{}, false, 0)
}

// P11.1: a new table has nothing, and nothing in common with another one.
func TestNew(t *testing.T) {
	a, b := session.New(), session.New()
	has(t, a)
	opens(t, a, 5, api.OK)
	has(t, b)
	for _, id := range edges() {
		looks(t, b, id, 1, api.Answer{}, false, api.ErrSessionNone)
		looks(t, b, id, 0, api.Answer{}, false, api.ErrSessionNone)
		keeps(t, b, id, 1, full, api.ErrSessionNone)
	}
	has(t, b)
}

// P11.1: each id but 0 can be opened, and then its last command has the number 0.
func TestOpen(t *testing.T) {
	for _, id := range edges() {
		s := session.New()
		if id == 0 {
			opens(t, s, id, api.ErrArg)
			has(t, s)
			continue
		}
		opens(t, s, id, api.OK)
		has(t, s, api.SessionRow{Id: id})
		for _, other := range edges() {
			if other != id {
				looks(t, s, other, 1, api.Answer{}, false, api.ErrSessionNone)
			}
		}
	}
}

// P11.1: a session that is there stays as it is.
func TestOpenAgain(t *testing.T) {
	s := opened(t, 5, 6)
	for range 3 {
		opens(t, s, 5, api.OK)
		has(t, s, api.SessionRow{Id: 5}, api.SessionRow{Id: 6})
	}
	keeps(t, s, 5, 4, full, api.OK)
	for range 3 {
		opens(t, s, 5, api.OK)
		has(t, s, api.SessionRow{Id: 5, Seq: 4, Answer: full}, api.SessionRow{Id: 6})
	}
	looks(t, s, 5, 4, full, true, api.OK)
	looks(t, s, 5, 3, api.Answer{}, false, api.ErrSessionOld)
}

// P11.1: there is room for 16 sessions; the id 0 and a session that is there come ahead of that.
func TestOpenFull(t *testing.T) {
	s := session.New()
	for i := range 16 {
		if s.Len() != i {
			t.Errorf("Len answers %d, want %d", s.Len(), i)
		}
		opens(t, s, uint64(i+1), api.OK)
	}
	keeps(t, s, 16, 3, full, api.OK)
	before := s.Rows()
	for _, id := range edges() {
		switch {
		case id == 0:
			opens(t, s, id, api.ErrArg)
		case id <= 16:
			opens(t, s, id, api.OK)
		default:
			opens(t, s, id, api.ErrSessionFull)
			looks(t, s, id, 1, api.Answer{}, false, api.ErrSessionNone)
		}
		has(t, s, before...)
	}
	for i := range 16 {
		keeps(t, s, uint64(i+1), 9, full, api.OK)
	}
}

// P11.2: of a session without commands, each number but 0 is a new one.
func TestLookAtNewSession(t *testing.T) {
	s := opened(t, 5)
	for _, seq := range edges() {
		want := api.OK
		if seq == 0 {
			want = api.ErrSessionOld
		}
		looks(t, s, 5, seq, api.Answer{}, false, want)
		has(t, s, api.SessionRow{Id: 5})
	}
}

// P11.2: each number with each last number, looked up and kept.
func TestLookKeep(t *testing.T) {
	for _, id := range edges()[1:] {
		for _, at := range edges()[1:] {
			for _, seq := range edges() {
				s := opened(t, id)
				keeps(t, s, id, at, full, api.OK)
				switch {
				case seq == 0 || seq < at:
					looks(t, s, id, seq, api.Answer{}, false, api.ErrSessionOld)
					keeps(t, s, id, seq, api.Answer{}, api.ErrSessionOld)
				case seq == at:
					looks(t, s, id, seq, full, true, api.OK)
					keeps(t, s, id, seq, api.Answer{}, api.ErrSessionOld)
				default:
					looks(t, s, id, seq, api.Answer{}, false, api.OK)
					has(t, s, api.SessionRow{Id: id, Seq: at, Answer: full})
					keeps(t, s, id, seq, api.Answer{Code: 9}, api.OK)
					has(t, s, api.SessionRow{Id: id, Seq: seq, Answer: api.Answer{Code: 9}})
					continue
				}
				has(t, s, api.SessionRow{Id: id, Seq: at, Answer: full})
			}
		}
	}
}

// P11.2: no session comes ahead of an old number.
func TestNoSession(t *testing.T) {
	s := opened(t, 5)
	keeps(t, s, 5, 4, full, api.OK)
	for _, id := range edges() {
		if id == 5 {
			continue
		}
		for _, seq := range []uint64{0, 1, 3, 4, 5, most} {
			looks(t, s, id, seq, api.Answer{}, false, api.ErrSessionNone)
			keeps(t, s, id, seq, api.Answer{}, api.ErrSessionNone)
		}
	}
	has(t, s, api.SessionRow{Id: 5, Seq: 4, Answer: full})
}

// P11.2: an answer comes back as it was kept, as a whole, however often it is asked for; a zero one is one too.
func TestAnswers(t *testing.T) {
	s := opened(t, 5)
	keeps(t, s, 5, 1, full, api.OK)
	for i, a := range append(parts(), api.Answer{}, full, api.Answer{}) {
		seq := uint64(i + 2)
		keeps(t, s, 5, seq, a, api.OK)
		for range 3 {
			looks(t, s, 5, seq, a, true, api.OK)
		}
		keeps(t, s, 5, seq, full, api.ErrSessionOld)
		keeps(t, s, 5, seq, a, api.ErrSessionOld)
		looks(t, s, 5, seq, a, true, api.OK)
		looks(t, s, 5, seq-1, api.Answer{}, false, api.ErrSessionOld)
		looks(t, s, 5, seq+1, api.Answer{}, false, api.OK)
		has(t, s, api.SessionRow{Id: 5, Seq: seq, Answer: a})
	}
}

// P11.2: sessions do not touch each other, even if they have the same numbers.
func TestSessionsAreApart(t *testing.T) {
	s := opened(t, 7, 5, 1<<32+5)
	keeps(t, s, 5, 4, full, api.OK)
	looks(t, s, 7, 4, api.Answer{}, false, api.OK)
	looks(t, s, 1<<32+5, 4, api.Answer{}, false, api.OK)
	keeps(t, s, 7, 4, api.Answer{Code: 9}, api.OK)
	keeps(t, s, 1<<32+5, 2, api.Answer{}, api.OK)
	has(t, s, api.SessionRow{Id: 5, Seq: 4, Answer: full}, api.SessionRow{Id: 7, Seq: 4, Answer: api.Answer{Code: 9}}, api.SessionRow{Id: 1<<32 + 5, Seq: 2})
}

// P11.2: behind the greatest number, no command is new any more.
func TestLastNumber(t *testing.T) {
	s := opened(t, 5)
	keeps(t, s, 5, most-1, api.Answer{}, api.OK)
	looks(t, s, 5, most, api.Answer{}, false, api.OK)
	keeps(t, s, 5, most, full, api.OK)
	for _, seq := range edges() {
		if seq < most {
			looks(t, s, 5, seq, api.Answer{}, false, api.ErrSessionOld)
		}
		keeps(t, s, 5, seq, api.Answer{}, api.ErrSessionOld)
	}
	looks(t, s, 5, most, full, true, api.OK)
}

// P11.1, P11.2, P11.3: calls by chance, held against a plain model.
func TestRandom(t *testing.T) {
	r := rand.New(rand.NewPCG(11, 2))
	for range 300 {
		s, m := session.New(), &model{}
		for range 200 {
			act(t, r, s, m)
		}
		has(t, s, m.rows()...)
		if t.Failed() {
			return
		}
	}
}
