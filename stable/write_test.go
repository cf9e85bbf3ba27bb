package stable_test

import (
	"fmt"
	"math"
	"slices"
	"testing"

	"dockyard/api"
	"dockyard/disk"
	"dockyard/stable"
)

// P6.3: a vote is written, read again, and takes three steps.
func TestSetVote(t *testing.T) {
	for _, v := range []api.Vote{{Term: 1, For: -1}, {Term: 1}, {Term: 1, For: 7}, {Term: 258, For: 3}, {Term: math.MaxUint64, For: -1}, {Term: math.MaxUint64, For: 7}} {
		s, d := fresh(t)
		answers(t, "SetVote", s.SetVote(v), api.OK)
		want := fmt.Sprintf("%d:%d %s", v.Term, v.For, none)
		sees(t, "SetVote", s, want)
		sees(t, "SetVote, opened again", open(t, d), want)
		has(t, "SetVote", d, file{"vote", voteFile(t, v.Term, v.For)})
		took(t, "SetVote", d, 3)
	}
}

// P6.3: votes that are not valid, whatever the vote is.
func TestSetVoteForm(t *testing.T) {
	s, d := fresh(t)
	for range 2 {
		before, seen := look(d), sight(t, s)
		for _, v := range []api.Vote{
			{}, {For: 1}, {For: 7}, {For: 8}, {For: -2}, {Term: 9, For: -2}, {Term: 9, For: 8}, {Term: 9, For: 9}, {Term: 9, For: 255}, {Term: 9, For: 256},
			{Term: 9, For: math.MinInt}, {Term: 9, For: math.MaxInt}, {Term: math.MaxUint64, For: 8}, {Term: 5, For: 8}, {Term: 4, For: -2},
		} {
			answers(t, fmt.Sprint("SetVote", v), s.SetVote(v), api.ErrStableForm)
		}
		sees(t, "votes that are not valid", s, seen)
		if look(d) != before {
			t.Errorf("the disk is %s, was %s", look(d), before)
		}
		must(t, s.SetVote(api.Vote{Term: 5, For: 3}))
	}
}

// P6.3: which vote may follow which; a refusal and the vote that is there already write nothing.
func TestSetVoteOld(t *testing.T) {
	for _, c := range []struct {
		now, next api.Vote
		want      api.Errno
		steps     int
	}{
		{api.Vote{Term: 5, For: 3}, api.Vote{Term: 5, For: 3}, api.OK, 0},
		{api.Vote{Term: 5, For: 3}, api.Vote{Term: 5, For: 2}, api.ErrStableOld, 0},
		{api.Vote{Term: 5, For: 3}, api.Vote{Term: 5, For: 4}, api.ErrStableOld, 0},
		{api.Vote{Term: 5, For: 0}, api.Vote{Term: 5, For: 1}, api.ErrStableOld, 0},
		{api.Vote{Term: 5, For: 0}, api.Vote{Term: 5, For: -1}, api.ErrStableOld, 0},
		{api.Vote{Term: 5, For: 3}, api.Vote{Term: 5, For: -1}, api.ErrStableOld, 0},
		{api.Vote{Term: 5, For: 3}, api.Vote{Term: 4, For: 3}, api.ErrStableOld, 0},
		{api.Vote{Term: 5, For: 3}, api.Vote{Term: 4, For: -1}, api.ErrStableOld, 0},
		{api.Vote{Term: 5, For: 3}, api.Vote{Term: 0, For: -1}, api.ErrStableOld, 0},
		{api.Vote{Term: 5, For: 3}, api.Vote{Term: 6, For: 3}, api.OK, 3},
		{api.Vote{Term: 5, For: 3}, api.Vote{Term: 6, For: 0}, api.OK, 3},
		{api.Vote{Term: 5, For: 3}, api.Vote{Term: 6, For: -1}, api.OK, 3},
		{api.Vote{Term: 5, For: 3}, api.Vote{Term: math.MaxUint64, For: -1}, api.OK, 3},
		{api.Vote{Term: 5, For: -1}, api.Vote{Term: 5, For: -1}, api.OK, 0},
		{api.Vote{Term: 5, For: -1}, api.Vote{Term: 5, For: 0}, api.OK, 3},
		{api.Vote{Term: 5, For: -1}, api.Vote{Term: 5, For: 7}, api.OK, 3},
		{api.Vote{Term: 5, For: -1}, api.Vote{Term: 6, For: 7}, api.OK, 3},
		{api.Vote{Term: 5, For: -1}, api.Vote{Term: 4, For: -1}, api.ErrStableOld, 0},
		{api.Vote{Term: 5, For: -1}, api.Vote{Term: 4, For: 7}, api.ErrStableOld, 0},
		{api.Vote{Term: 0, For: -1}, api.Vote{Term: 0, For: -1}, api.OK, 0},
		{api.Vote{Term: math.MaxUint64, For: 3}, api.Vote{Term: 1, For: 3}, api.ErrStableOld, 0},
	} {
		s, d := fresh(t)
		must(t, s.SetVote(c.now))
		for _, x := range []*stable.Stable{s, open(t, d.Clone())} {
			what := fmt.Sprintf("SetVote%v behind %v", c.next, c.now)
			steps := d.Steps()
			answers(t, what, x.SetVote(c.next), c.want)
			want := c.now
			if c.want == api.OK {
				want = c.next
			}
			sees(t, what, x, fmt.Sprintf("%d:%d %s", want.Term, want.For, none))
			if x == s {
				took(t, what, d, steps+c.steps)
			}
		}
	}
}

// P6.3: a snapshot is written, read again, and takes three steps, and one more if there was one before.
func TestSave(t *testing.T) {
	eight := []int{7, 6, 5, 4, 3, 2, 1, 0}
	s, d := fresh(t)
	for i, x := range []api.Snapshot{
		{Index: 1, Term: 1},
		snap(2, 9, "data"),
		{Index: 0x1f, Term: 2, Config: api.Config{Voters: eight}},
		{Index: 1 << 32, Term: math.MaxUint64, Config: api.Config{Learners: eight}, Data: []byte{0}},
		{Index: 1 << 33, Term: 1, Config: api.Config{Voters: []int{3, 3}, Learners: []int{3}}},
		{Index: 1 << 34, Term: 5, Data: slices.Repeat([]byte{0xfe}, api.MaxSnap)},
		{Index: math.MaxUint64, Term: 2, Config: api.Config{Voters: eight, Learners: eight}},
	} {
		steps := d.Steps()
		answers(t, "Save", s.Save(x), api.OK)
		sees(t, "Save", s, "0:-1 "+written(x))
		took(t, "Save", d, steps+3+min(i, 1))
		has(t, "Save", d, file{snapName(x.Index), snapFile(t, x)})
		sees(t, "Save, opened again", open(t, d.Clone()), "0:-1 "+written(x))
	}
}

// P6.3: the file of a snapshot that Open has found is removed, too, when the next one is there.
func TestSaveBehindOpen(t *testing.T) {
	d := lay(t, file{snapName(3), snapFile(t, snap(3, 2, "data"))}, file{"other", "o"})
	s := open(t, d)
	answers(t, "Save", s.Save(snap(4, 1, "next")), api.OK)
	has(t, "Save", d, file{snapName(4), snapFile(t, snap(4, 1, "next"))}, file{"other", "o"})
	took(t, "Save", d, 4)
}

// wrong answers snapshots that are not valid, all of them with an index that would be.
func wrong() []api.Snapshot {
	l := []api.Snapshot{{}, {Term: 9}, {Index: 9}, {Index: 9, Term: 9, Data: make([]byte, api.MaxSnap+1)}, {Index: math.MaxUint64}}
	for _, bad := range [][]int{{8}, {-1}, {0, 1, 8}, {-1, 0, 1}, {256}, {math.MinInt}, {math.MaxInt}, make([]int, 9), make([]int, 256), make([]int, 257)} {
		l = append(l, api.Snapshot{Index: 9, Term: 9, Config: api.Config{Voters: bad}}, api.Snapshot{Index: 9, Term: 9, Config: api.Config{Learners: bad}})
	}
	return l
}

// P6.3: snapshots that are not valid, whichever is there.
func TestSaveForm(t *testing.T) {
	s, d := fresh(t)
	for _, index := range []uint64{3, 20} {
		before, seen := look(d), sight(t, s)
		for i, x := range wrong() {
			answers(t, fmt.Sprint("wrong snapshot ", i), s.Save(x), api.ErrStableForm)
		}
		sees(t, "snapshots that are not valid", s, seen)
		if look(d) != before {
			t.Errorf("the disk is %s, was %s", look(d), before)
		}
		must(t, s.Save(snap(index, 3, "data")))
	}
	for i, x := range wrong() {
		answers(t, fmt.Sprint("wrong snapshot behind a greater one ", i), s.Save(x), api.ErrStableForm)
	}
}

// P6.3: a snapshot must have a greater index than that before; its term is not asked.
func TestSaveOld(t *testing.T) {
	s, d := fresh(t)
	must(t, s.Save(snap(5, 5, "data")))
	for _, x := range []*stable.Stable{s, open(t, d)} {
		before := look(d)
		for _, old := range []api.Snapshot{snap(5, 5, "data"), snap(5, 6, "other"), snap(4, 9, "data"), snap(1, 1, "")} {
			answers(t, "Save of "+written(old), x.Save(old), api.ErrStableOld)
		}
		sees(t, "Save of old ones", x, "0:-1 "+written(snap(5, 5, "data")))
		if look(d) != before {
			t.Errorf("the disk is %s, was %s", look(d), before)
		}
	}
	answers(t, "Save of the next one", s.Save(snap(6, 1, "next")), api.OK)
	sees(t, "Save of the next one", s, "0:-1 "+written(snap(6, 1, "next")))
}

// settled answers what has a vote and a snapshot, and its disk.
func settled(t *testing.T) (*stable.Stable, *disk.Disk) {
	t.Helper()
	d := lay(t, file{"vote", voteFile(t, 5, 3)}, file{snapName(5), snapFile(t, snap(5, 5, "data"))})
	return open(t, d), d
}

// seenSettled is what is seen of it.
func seenSettled() string { return "5:3 " + written(snap(5, 5, "data")) }

// staysBroken fails the test unless both calls answer the error, whatever they are given, and nothing changes.
func staysBroken(t *testing.T, what string, s *stable.Stable, d *disk.Disk, want api.Errno) {
	t.Helper()
	before, seen := look(d), sight(t, s)
	for _, v := range []api.Vote{{Term: 9, For: 1}, s.Vote(), {Term: 1, For: 1}, {Term: 9, For: 99}} {
		answers(t, fmt.Sprint(what, ", SetVote", v), s.SetVote(v), want)
	}
	for _, x := range []api.Snapshot{snap(90, 9, "x"), snap(1, 1, "x"), {}} {
		answers(t, what+", Save of "+written(x), s.Save(x), want)
	}
	sees(t, what, s, seen)
	if look(d) != before {
		t.Errorf("%s: the disk is %s, was %s", what, look(d), before)
	}
}

// P6.3: the steps of SetVote in their order; where one fails, the vote is that before, and both calls answer the error from then on.
func TestSetVoteSteps(t *testing.T) {
	old, next := voteFile(t, 5, 3), voteFile(t, 6, 2)
	one := file{snapName(5), snapFile(t, snap(5, 5, "data"))}
	for at, c := range []struct{ now, durable []file }{
		{[]file{{"vote", old}, {"vote.new", next}, one}, []file{{"vote", old}, {"vote.new", ""}, one}},
		{[]file{{"vote", old}, {"vote.new", next}, one}, []file{{"vote", old}, {"vote.new", ""}, one}},
		{[]file{{"vote", old}, {"vote.new", next}, one}, []file{{"vote", old}, {"vote.new", next}, one}},
		{[]file{{"vote", next}, one}, []file{{"vote", next}, one}},
	} {
		s, d := settled(t)
		d.Arm(at)
		code := s.SetVote(api.Vote{Term: 6, For: 2})
		if got, want := contents(d), contents(lay(t, c.now...)); got != want {
			t.Errorf("failing at step %d: the files are %s, want %s", at, got, want)
		}
		if got, want := contents(d.Crash(nil)), contents(lay(t, c.durable...)); got != want {
			t.Errorf("failing at step %d: durable are %s, want %s", at, got, want)
		}
		if at == 3 {
			answers(t, "SetVote", code, api.OK)
			sees(t, "SetVote", s, "6:2 "+written(snap(5, 5, "data")))
			continue
		}
		answers(t, "SetVote", code, api.ErrDiskDead)
		sees(t, "SetVote", s, seenSettled())
		took(t, "SetVote", d, at+1)
		staysBroken(t, fmt.Sprint("SetVote failing at step ", at), s, d, api.ErrDiskDead)
	}
}

// P6.3: the steps of Save in their order; from the Rename on the snapshot is the new one.
func TestSaveSteps(t *testing.T) {
	x := snap(6, 2, "next")
	vote, old, next := file{"vote", voteFile(t, 5, 3)}, file{snapName(5), snapFile(t, snap(5, 5, "data"))}, snapFile(t, x)
	for at, c := range []struct {
		now, durable []file
		want         api.Errno
		seen         string
	}{
		{[]file{vote, old, {"snap.new", next}}, []file{vote, old, {"snap.new", ""}}, api.ErrDiskDead, seenSettled()},
		{[]file{vote, old, {"snap.new", next}}, []file{vote, old, {"snap.new", ""}}, api.ErrDiskDead, seenSettled()},
		{[]file{vote, old, {"snap.new", next}}, []file{vote, old, {"snap.new", next}}, api.ErrDiskDead, seenSettled()},
		{[]file{vote, old, {snapName(6), next}}, []file{vote, old, {snapName(6), next}}, api.ErrDiskDead, "5:3 " + written(x)},
		{[]file{vote, {snapName(6), next}}, []file{vote, {snapName(6), next}}, api.OK, "5:3 " + written(x)},
	} {
		s, d := settled(t)
		d.Arm(at)
		answers(t, "Save", s.Save(x), c.want)
		if got, want := contents(d), contents(lay(t, c.now...)); got != want {
			t.Errorf("failing at step %d: the files are %s, want %s", at, got, want)
		}
		if got, want := contents(d.Crash(nil)), contents(lay(t, c.durable...)); got != want {
			t.Errorf("failing at step %d: durable are %s, want %s", at, got, want)
		}
		sees(t, "Save", s, c.seen)
		if c.want != api.OK {
			took(t, "Save", d, at+1)
			staysBroken(t, fmt.Sprint("Save failing at step ", at), s, d, c.want)
		}
	}
}

// P6.3: the first snapshot takes three steps, behind which a failing disk is not noticed.
func TestFirstSaveSteps(t *testing.T) {
	for at := range 4 {
		s, d := fresh(t)
		d.Arm(at)
		want, seen := api.ErrDiskDead, "0:-1 "+none
		if at == 3 {
			want, seen = api.OK, "0:-1 "+written(snap(6, 2, "next"))
		}
		answers(t, "Save", s.Save(snap(6, 2, "next")), want)
		sees(t, "Save", s, seen)
	}
}

// P6.3: a disk that would do the next step, were it asked, is not asked.
func TestBrokenByFullDisk(t *testing.T) {
	size := len(snapFile(t, snap(9, 9, "")))
	for _, c := range []struct {
		room int
		do   func(s *stable.Stable) api.Errno
	}{
		{20, func(s *stable.Stable) api.Errno { return s.SetVote(api.Vote{Term: 1, For: 1}) }},
		{size - 1, func(s *stable.Stable) api.Errno { return s.Save(snap(9, 9, "")) }},
		{size, func(s *stable.Stable) api.Errno { return s.Save(snap(9, 9, "x")) }},
	} {
		d := disk.New(c.room)
		s := open(t, d)
		answers(t, "a full disk", c.do(s), api.ErrDiskFull)
		sees(t, "a full disk", s, "0:-1 "+none)
		has(t, "a full disk", d)
		staysBroken(t, "a full disk", s, d, api.ErrDiskFull)
		took(t, "a full disk", d, 0)
	}
	s := open(t, disk.New(21))
	must(t, s.SetVote(api.Vote{Term: 1, For: 1}))
	answers(t, "no room for both votes", s.SetVote(api.Vote{Term: 2, For: 1}), api.ErrDiskFull)
	sees(t, "no room for both votes", s, "1:1 "+none)
	must(t, open(t, disk.New(size)).Save(snap(9, 9, "")))
}

// P6.3: an error of the last step of Save breaks both calls, though the snapshot is the new one.
func TestBrokenByMissingFile(t *testing.T) {
	s, d := settled(t)
	d.Wipe()
	answers(t, "Save", s.Save(snap(6, 2, "next")), api.ErrDiskNone)
	sees(t, "Save", s, "5:3 "+written(snap(6, 2, "next")))
	has(t, "Save", d, file{snapName(6), snapFile(t, snap(6, 2, "next"))})
	staysBroken(t, "Save", s, d, api.ErrDiskNone)
}

// P6.3: what is refused does not break anything.
func TestRefusedIsNotBroken(t *testing.T) {
	s, d := settled(t)
	answers(t, "SetVote", s.SetVote(api.Vote{}), api.ErrStableForm)
	answers(t, "SetVote", s.SetVote(api.Vote{Term: 5, For: 1}), api.ErrStableOld)
	answers(t, "Save", s.Save(api.Snapshot{}), api.ErrStableForm)
	answers(t, "Save", s.Save(snap(5, 5, "data")), api.ErrStableOld)
	took(t, "what is refused", d, 0)
	must(t, s.SetVote(api.Vote{Term: 6, For: 2}), s.Save(snap(6, 2, "next")))
	sees(t, "what follows", s, "6:2 "+written(snap(6, 2, "next")))
}
