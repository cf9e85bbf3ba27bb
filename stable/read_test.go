package stable_test

import (
	"testing"

	"dockyard/api"
	"dockyard/disk"
)

// The examples of the chapter.
func TestExamples(t *testing.T) {
	s, d := fresh(t)
	if s.Vote() != (api.Vote{Term: 0, For: -1}) {
		t.Errorf("Vote answers %v", s.Vote())
	}
	x, there := s.Snapshot()
	if there || written(x) != none {
		t.Errorf("Snapshot answers %v, %v", x, there)
	}
	answers(t, "SetVote({1, 2})", s.SetVote(api.Vote{Term: 1, For: 2}), api.OK)
	answers(t, "SetVote({1, 0})", s.SetVote(api.Vote{Term: 1, For: 0}), api.ErrStableOld)
	answers(t, "SetVote({0, -1})", s.SetVote(api.Vote{Term: 0, For: -1}), api.ErrStableOld)
	b, _ := d.Read("vote")
	if len(d.Names()) != 1 || len(b) != 21 {
		t.Errorf("the files are %s", contents(d))
	}
}

// P6.2: nothing that happens to the disk changes what is answered.
func TestReadsAreFromMemory(t *testing.T) {
	s, d := fresh(t)
	must(t, s.SetVote(api.Vote{Term: 3, For: 2}), s.Save(snap(9, 3, "data")))
	again := open(t, d)
	want := "3:2 " + written(snap(9, 3, "data"))
	sees(t, "what was written", s, want)
	steps := d.Steps()
	sees(t, "what was read", again, want)
	took(t, "reading", d, steps)
	d.Wipe()
	sees(t, "what was written, on a wiped disk", s, want)
	sees(t, "what was read, on a wiped disk", again, want)
}

// spoil overwrites all that a snapshot refers to.
func spoil(x api.Snapshot) {
	fill(x.Data, 0xee)
	fill(x.Config.Voters, 6)
	fill(x.Config.Learners, 6)
}

// R5 for P6.2: a snapshot that was answered is the caller's own, and so are its lists.
func TestSnapshotIsNewMemory(t *testing.T) {
	s, d := fresh(t)
	must(t, s.Save(snap(9, 3, "data")))
	want := "0:-1 " + written(snap(9, 3, "data"))
	for _, x := range []interface {
		Snapshot() (api.Snapshot, bool)
	}{s, open(t, d)} {
		earlier, _ := x.Snapshot()
		later, _ := x.Snapshot()
		spoil(later)
		if written(earlier) != written(snap(9, 3, "data")) {
			t.Errorf("an earlier answer has become %s", written(earlier))
		}
	}
	sees(t, "what was written", s, want)
	sees(t, "what was read", open(t, d), want)

	for list := range 3 {
		x, _ := s.Snapshot()
		want := snap(9, 3, "data")
		switch list {
		case 0:
			fill(x.Config.Voters, 6)
			want.Config.Voters = []int{6, 6, 6}
		case 1:
			fill(x.Config.Learners, 6)
			want.Config.Learners = []int{6}
		case 2:
			fill(x.Data, 'e')
			want.Data = []byte("eeee")
		}
		if written(x) != written(want) {
			t.Errorf("one list was written to, and the snapshot is %s, want %s", written(x), written(want))
		}
	}
}

// R5 for P6.3: what Save was given is neither changed nor kept, nor is what is behind its lists.
func TestSaveKeepsNothing(t *testing.T) {
	s, d := fresh(t)
	whole := api.Snapshot{Index: 9, Term: 3, Config: api.Config{Voters: []int{0, 2, 7, 4, 4}, Learners: []int{5, 3, 3}}, Data: []byte("data and more")}
	x := whole
	x.Config.Voters, x.Config.Learners, x.Data = whole.Config.Voters[:3], whole.Config.Learners[:1], whole.Data[:4]
	before := written(whole)
	must(t, s.Save(x))
	if written(whole) != before {
		t.Errorf("Save has changed what it was given to %s", written(whole))
	}
	spoil(x)
	sees(t, "Save", s, "0:-1 "+written(snap(9, 3, "data")))
	has(t, "Save", d, file{snapName(9), snapFile(t, snap(9, 3, "data"))})
}

// R4: nil and empty lists are the same, in memory and in the file.
func TestEmptyLists(t *testing.T) {
	var seen []string
	for _, x := range []api.Snapshot{
		{Index: 9, Term: 3},
		{Index: 9, Term: 3, Config: api.Config{Voters: []int{}, Learners: []int{}}, Data: []byte{}},
	} {
		s, d := fresh(t)
		must(t, s.Save(x))
		seen = append(seen, sight(t, s)+look(d), sight(t, open(t, d))+look(d))
	}
	for _, one := range seen {
		if one != seen[0] {
			t.Errorf("seen is %s, want %s", one, seen[0])
		}
	}
}

// P6.2: two that are opened on one disk do not affect each other's answers.
func TestTwoOnOneDisk(t *testing.T) {
	d := disk.New(1000)
	one, two := open(t, d), open(t, d)
	must(t, one.SetVote(api.Vote{Term: 2, For: 1}), one.Save(snap(4, 2, "x")))
	sees(t, "the other one", two, "0:-1 "+none)
}
