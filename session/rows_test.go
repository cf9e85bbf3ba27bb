package session_test

import (
	"math/rand/v2"
	"slices"
	"testing"

	"dockyard/api"
	"dockyard/session"
)

// refused fails the test unless Load answers ErrArg and no table.
func refused(t *testing.T, l ...api.SessionRow) {
	t.Helper()
	if s, e := session.Load(l); s != nil || e != api.ErrArg {
		t.Errorf("Load of %v answers %v, %d, want ErrArg", l, s, e)
	}
}

// P11.3: rows ascend by their ids as numbers, in whatever order the sessions were opened, and each time.
func TestRowsAscend(t *testing.T) {
	ids := []uint64{1, 2, 9, 10, 255, 256, 1<<31 - 1, 1 << 31, 1<<32 - 1, 1 << 32, 1<<32 + 1, 1<<63 - 1, 1 << 63, 1<<63 + 1, most - 1, most}
	var want []api.SessionRow
	for i, id := range ids {
		want = append(want, api.SessionRow{Id: id, Seq: uint64(16 - i), Answer: api.Answer{Id: uint64(i)}})
	}
	r := rand.New(rand.NewPCG(11, 3))
	for range 100 {
		s := session.New()
		for _, i := range r.Perm(len(ids)) {
			opens(t, s, ids[i], api.OK)
			keeps(t, s, ids[i], want[i].Seq, want[i].Answer, api.OK)
		}
		for range 3 {
			has(t, s, want...)
		}
	}
}

// P11.3: a session without commands is a row with the Seq 0 and a zero answer.
func TestRowsOfNewSessions(t *testing.T) {
	s := opened(t, 9, 2, 5)
	has(t, s, api.SessionRow{Id: 2}, api.SessionRow{Id: 5}, api.SessionRow{Id: 9})
	keeps(t, s, 5, 3, full, api.OK)
	has(t, s, api.SessionRow{Id: 2}, api.SessionRow{Id: 5, Seq: 3, Answer: full}, api.SessionRow{Id: 9})
}

// P11.3: rows are new memory, with their capacity.
func TestRowsAreNew(t *testing.T) {
	s := opened(t, 2, 5)
	keeps(t, s, 5, 3, full, api.OK)
	want := []api.SessionRow{{Id: 2}, {Id: 5, Seq: 3, Answer: full}}
	kept := s.Rows()
	for range 2 {
		l := s.Rows()
		l = l[:cap(l)]
		for i := range l {
			l[i] = api.SessionRow{Id: 7, Seq: 8, Answer: api.Answer{Code: 9}}
		}
		has(t, s, want...)
	}
	opens(t, s, 1, api.OK)
	keeps(t, s, 5, 4, api.Answer{}, api.OK)
	if !slices.Equal(kept, want) {
		t.Errorf("rows of before have become %v", kept)
	}
}

// P11.3: what is a table's rows is loaded.
func TestLoad(t *testing.T) {
	for _, l := range [][]api.SessionRow{
		nil, {}, {{Id: 1}}, {{Id: most}}, {{Id: 1}, {Id: most}}, {{Id: 1}, {Id: 2}, {Id: 1 << 32}, {Id: 1 << 63}},
		{{Id: 5, Seq: 1}}, {{Id: 5, Seq: most}}, {{Id: 5, Seq: most, Answer: full}, {Id: 6}}, {{Id: 5, Seq: 3}, {Id: 6, Seq: 1, Answer: full}, {Id: 7, Seq: 2}},
		numbered(15), numbered(16),
	} {
		has(t, loaded(t, l...), l...)
	}
	for _, a := range parts() {
		has(t, loaded(t, api.SessionRow{Id: 5, Seq: 1, Answer: a}), api.SessionRow{Id: 5, Seq: 1, Answer: a})
	}
}

// P11.3: there is room for 16 rows, be they right or not.
func TestLoadTooMany(t *testing.T) {
	for _, n := range []int{17, 18, 32, 255, 256, 257, 272, 1000} {
		refused(t, numbered(n)...)
		refused(t, make([]api.SessionRow, n)...)
	}
}

// P11.3: an id that is 0, equal to one before or less than it is refused, wherever it stands.
func TestLoadIds(t *testing.T) {
	refused(t, api.SessionRow{})
	refused(t, api.SessionRow{Seq: 1})
	refused(t, api.SessionRow{Seq: 1, Answer: full})
	refused(t, api.SessionRow{Id: most}, api.SessionRow{Id: most})
	refused(t, api.SessionRow{Id: most}, api.SessionRow{Id: 0})
	refused(t, api.SessionRow{Id: 1 << 63}, api.SessionRow{Id: 5})
	refused(t, api.SessionRow{Id: 1<<32 + 5}, api.SessionRow{Id: 6})
	refused(t, api.SessionRow{Id: 5, Seq: 1}, api.SessionRow{Id: 5, Seq: 2})
	for i := range 16 {
		l := numbered(16)
		l[i].Id = 0
		refused(t, l...)
		for back := range i {
			l[i].Id = l[back].Id
			refused(t, l...)
		}
	}
	for i := range 15 {
		l := numbered(16)
		l[i], l[i+1] = l[i+1], l[i]
		refused(t, l...)
	}
}

// P11.3: an answer without a command is refused, whatever stands in it and wherever.
func TestLoadAnswers(t *testing.T) {
	for _, a := range append(parts(), full) {
		refused(t, api.SessionRow{Id: 5, Answer: a})
		for i := range 16 {
			l := numbered(16)
			l[i].Answer = a
			refused(t, l...)
			l[i].Seq = 1
			has(t, loaded(t, l...), l...)
		}
	}
}

// P11.3: rows that are given are neither changed nor kept, and neither is what stands behind their end.
func TestLoadKeepsNothing(t *testing.T) {
	l := append(numbered(3), api.SessionRow{Id: 9, Seq: 9, Answer: full})
	l[1].Seq, l[1].Answer = 4, full
	before := slices.Clone(l)
	s := loaded(t, l[:3]...)
	opens(t, s, 8, api.OK)
	keeps(t, s, 2, 5, api.Answer{}, api.OK)
	s.Rows()[0] = api.SessionRow{Id: 7}
	if !slices.Equal(l, before) {
		t.Errorf("the rows that were loaded have become %v", l)
	}
	clear(l)
	has(t, s, api.SessionRow{Id: 1}, api.SessionRow{Id: 2, Seq: 5}, api.SessionRow{Id: 3}, api.SessionRow{Id: 8})
	wrong := []api.SessionRow{{Id: 2}, {Id: 1, Answer: full}, {}}
	before = slices.Clone(wrong)
	refused(t, wrong...)
	if !slices.Equal(wrong, before) {
		t.Errorf("the rows that were refused have become %v", wrong)
	}
}

// P11.3: Load agrees with the document about rows by chance, most of which are nearly right.
func TestLoadRandom(t *testing.T) {
	r := rand.New(rand.NewPCG(11, 31))
	for range 5000 {
		l := numbered(r.IntN(19))
		for range r.IntN(3) {
			if len(l) > 0 {
				l[r.IntN(len(l))] = api.SessionRow{Id: r.Uint64N(18), Seq: r.Uint64N(2), Answer: answer(r)}
			}
		}
		right := len(l) <= 16
		for i, row := range l {
			right = right && row.Id != 0 && (i == 0 || l[i-1].Id < row.Id) && (row.Seq != 0 || row.Answer == api.Answer{})
		}
		if right {
			has(t, loaded(t, l...), l...)
		} else {
			refused(t, l...)
		}
	}
}

// P11.3: Len counts sessions, and nothing else changes it.
func TestLen(t *testing.T) {
	s := session.New()
	for i := range 20 {
		opens(t, s, 0, api.ErrArg)
		s.Open(uint64(100 - i))
		s.Open(uint64(100 - i))
		s.Keep(100, uint64(i), full)
		s.Look(uint64(i), 1)
		if want := min(i+1, 16); s.Len() != want {
			t.Errorf("Len answers %d, want %d", s.Len(), want)
		}
	}
}

// P11.3: a clone has what the table had, and both go their own ways.
func TestClone(t *testing.T) {
	has(t, session.New().Clone())
	opens(t, session.New().Clone(), 5, api.OK)
	s := opened(t, 5, 6)
	keeps(t, s, 5, 4, full, api.OK)
	before := s.Rows()
	c := s.Clone()
	has(t, c, before...)

	opens(t, c, 7, api.OK)
	keeps(t, c, 5, 5, api.Answer{Code: 9}, api.OK)
	keeps(t, c, 6, 1, full, api.OK)
	has(t, s, before...)
	looks(t, s, 5, 4, full, true, api.OK)
	looks(t, s, 7, 1, api.Answer{}, false, api.ErrSessionNone)

	after := c.Rows()
	opens(t, s, 8, api.OK)
	keeps(t, s, 5, 8, api.Answer{Id: 1}, api.OK)
	has(t, c, after...)
	looks(t, c, 5, 5, api.Answer{Code: 9}, true, api.OK)
	looks(t, c, 8, 1, api.Answer{}, false, api.ErrSessionNone)
}

// P11.3: clones, and clones of these, go each their own way, whatever is done to them.
func TestClonesRandom(t *testing.T) {
	r := rand.New(rand.NewPCG(11, 7))
	tables, models := []*session.Table{session.New()}, []*model{{}}
	for range 8000 {
		i := r.IntN(len(tables))
		if len(tables) < 30 && r.IntN(100) == 0 {
			m := slices.Clone(*models[i])
			tables, models = append(tables, tables[i].Clone()), append(models, &m)
		}
		act(t, r, tables[i], models[i])
	}
	for i, s := range tables {
		has(t, s, models[i].rows()...)
	}
}
