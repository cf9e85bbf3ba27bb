package session_test

import (
	"math"
	"math/rand/v2"
	"slices"
	"testing"

	"dockyard/api"
	"dockyard/session"
)

const most = math.MaxUint64

// full is an answer with something in each of its fields.
var full = api.Answer{Code: 7, Id: 3, Token: most, Until: 1 << 63, Target: "hull", Command: "cc hull"}

// parts answers answers of which only one field is not zero.
func parts() []api.Answer {
	return []api.Answer{
		{Code: 1}, {Code: -1}, {Id: 1}, {Id: 1 << 63}, {Token: 1}, {Token: 1 << 32}, {Until: 1}, {Until: most}, {Target: "a"}, {Target: "\x00"}, {Command: "a"}, {Command: "\xff"},
	}
}

// edges answers numbers about which something could change: at 0, and at the ends of narrower numbers.
func edges() []uint64 {
	return []uint64{0, 1, 2, 3, 4, 5, 6, 15, 16, 17, 255, 256, math.MaxInt32, math.MaxInt32 + 1, math.MaxUint32, 1 << 32, 1<<32 + 5, math.MaxInt64, 1 << 63, 1<<63 + 5, most - 1, most}
}

// opened answers a table that has opened these sessions.
func opened(t *testing.T, ids ...uint64) *session.Table {
	t.Helper()
	s := session.New()
	for _, id := range ids {
		if e := s.Open(id); e != api.OK {
			t.Fatalf("Open(%d) answers %d", id, e)
		}
	}
	return s
}

// numbered answers rows with the ids 1 to n.
func numbered(n int) []api.SessionRow {
	var l []api.SessionRow
	for i := range n {
		l = append(l, api.SessionRow{Id: uint64(i + 1)})
	}
	return l
}

// loaded answers a table that was loaded from these rows.
func loaded(t *testing.T, l ...api.SessionRow) *session.Table {
	t.Helper()
	s, e := session.Load(l)
	if e != api.OK || s == nil {
		t.Fatalf("Load of %v answers %v, %d", l, s, e)
	}
	return s
}

// has fails the test unless these are the table's sessions.
func has(t *testing.T, s *session.Table, want ...api.SessionRow) {
	t.Helper()
	if got := s.Rows(); !slices.Equal(got, want) {
		t.Errorf("Rows answers %v, want %v", got, want)
	}
	if s.Len() != len(want) {
		t.Errorf("Len answers %d, want %d", s.Len(), len(want))
	}
}

// looks fails the test unless Look answers that.
func looks(t *testing.T, s *session.Table, id, seq uint64, want api.Answer, known bool, code api.Errno) {
	t.Helper()
	if a, k, e := s.Look(id, seq); a != want || k != known || e != code {
		t.Errorf("Look(%d, %d) answers %v, %v, %d, want %v, %v, %d", id, seq, a, k, e, want, known, code)
	}
}

// keeps fails the test unless Keep answers that.
func keeps(t *testing.T, s *session.Table, id, seq uint64, a api.Answer, code api.Errno) {
	t.Helper()
	if e := s.Keep(id, seq, a); e != code {
		t.Errorf("Keep(%d, %d) answers %d, want %d", id, seq, e, code)
	}
}

// opens fails the test unless Open answers that.
func opens(t *testing.T, s *session.Table, id uint64, code api.Errno) {
	t.Helper()
	if e := s.Open(id); e != code {
		t.Errorf("Open(%d) answers %d, want %d", id, e, code)
	}
}

// A model is what the document asks of a table: its sessions in the order in which they were opened.
type model []api.SessionRow

func (m model) find(id uint64) int {
	return slices.IndexFunc(m, func(r api.SessionRow) bool { return r.Id == id })
}

func (m *model) open(id uint64) api.Errno {
	switch {
	case id == 0:
		return 1
	case m.find(id) >= 0:
		return 0
	case len(*m) == 16:
		return 112
	}
	*m = append(*m, api.SessionRow{Id: id})
	return 0
}

func (m model) look(id, seq uint64) (api.Answer, bool, api.Errno) {
	i := m.find(id)
	if i < 0 {
		return api.Answer{}, false, 110
	}
	if seq == 0 || seq < m[i].Seq {
		return api.Answer{}, false, 111
	}
	if seq == m[i].Seq {
		return m[i].Answer, true, 0
	}
	return api.Answer{}, false, 0
}

func (m model) keep(id, seq uint64, a api.Answer) api.Errno {
	i := m.find(id)
	if i < 0 {
		return 110
	}
	if seq <= m[i].Seq {
		return 111
	}
	m[i].Seq, m[i].Answer = seq, a
	return 0
}

func (m model) rows() []api.SessionRow {
	l := slices.Clone(m)
	slices.SortFunc(l, func(a, b api.SessionRow) int {
		if a.Id < b.Id {
			return -1
		}
		return 1
	})
	return l
}

// chance answers a number near one of some numbers, so that the same ones and their neighbours come again.
func chance(r *rand.Rand) uint64 {
	return []uint64{0, 0, 0, 1<<32 - 3, 1<<63 - 3, most - 5}[r.IntN(6)] + r.Uint64N(6)
}

// answer answers an answer by chance, which is often a zero one.
func answer(r *rand.Rand) api.Answer {
	return append(parts(), full, api.Answer{}, api.Answer{}, api.Answer{})[r.IntN(len(parts())+4)]
}

// act does one random thing to the table and to the model, and fails the test unless both answer the same.
func act(t *testing.T, r *rand.Rand, s *session.Table, m *model) {
	t.Helper()
	id, seq := chance(r), chance(r)
	switch r.IntN(4) {
	case 0:
		opens(t, s, id, m.open(id))
	case 1:
		a, known, e := m.look(id, seq)
		looks(t, s, id, seq, a, known, e)
	default:
		a := answer(r)
		keeps(t, s, id, seq, a, m.keep(id, seq, a))
	}
}
