package stable_test

import (
	"fmt"
	"math/rand/v2"
	"slices"
	"testing"

	"dockyard/api"
	"dockyard/disk"
	"dockyard/stable"
)

// A model does to a disk of its own what the document says, in the plainest way.
type model struct {
	d        *disk.Disk
	vote     api.Vote
	snapshot api.Snapshot
	broken   api.Errno
}

func (m *model) sight() string {
	return fmt.Sprintf("%d:%d %s", m.vote.Term, m.vote.For, written(m.snapshot))
}

// write does the three steps that put a file in place.
func (m *model) write(unfinished, name, contents string) api.Errno {
	if m.broken == api.OK {
		m.broken = m.d.Append(unfinished, []byte(contents))
	}
	if m.broken == api.OK {
		m.broken = m.d.Sync(unfinished)
	}
	if m.broken == api.OK {
		m.broken = m.d.Rename(unfinished, name)
	}
	return m.broken
}

func (m *model) setVote(t *testing.T, v api.Vote) api.Errno {
	switch {
	case m.broken != api.OK:
		return m.broken
	case v.For < -1 || v.For > 7 || v.Term == 0 && v.For != -1:
		return api.ErrStableForm
	case v.Term < m.vote.Term:
		return api.ErrStableOld
	case v == m.vote:
		return api.OK
	case v.Term == m.vote.Term && m.vote.For != -1:
		return api.ErrStableOld
	}
	if m.write("vote.new", "vote", voteFile(t, v.Term, v.For)) == api.OK {
		m.vote = v
	}
	return m.broken
}

func (m *model) save(t *testing.T, x api.Snapshot) api.Errno {
	bad := func(n int) bool { return n < 0 || n > 7 }
	switch {
	case m.broken != api.OK:
		return m.broken
	case x.Index == 0 || x.Term == 0 || len(x.Config.Voters) > 8 || len(x.Config.Learners) > 8:
		return api.ErrStableForm
	case slices.ContainsFunc(x.Config.Voters, bad) || slices.ContainsFunc(x.Config.Learners, bad):
		return api.ErrStableForm
	case x.Index <= m.snapshot.Index:
		return api.ErrStableOld
	}
	if m.write("snap.new", snapName(x.Index), snapFile(t, x)) == api.OK {
		if m.snapshot.Index != 0 {
			m.broken = m.d.Remove(snapName(m.snapshot.Index))
		}
		m.snapshot = x
	}
	return m.broken
}

// randomVote answers one near that before, which is refused now and then.
func randomVote(r *rand.Rand, before api.Vote) api.Vote {
	v := api.Vote{Term: before.Term + r.Uint64N(3), For: r.IntN(9) - 1}
	switch r.IntN(12) {
	case 0:
		v.Term -= min(v.Term, 2)
	case 1:
		v.For = r.IntN(40) - 20
	case 2:
		v = before
	}
	return v
}

// randomSnapshot answers one near that before, which is refused now and then.
func randomSnapshot(r *rand.Rand, before api.Snapshot) api.Snapshot {
	x := api.Snapshot{Index: before.Index + r.Uint64N(20), Term: r.Uint64N(9) + 1, Data: make([]byte, r.IntN(20))}
	for i := range x.Data {
		x.Data[i] = byte(r.IntN(256))
	}
	for _, l := range []*[]int{&x.Config.Voters, &x.Config.Learners} {
		for range r.IntN(9) {
			*l = append(*l, r.IntN(8))
		}
		if r.IntN(20) == 0 {
			*l = append(*l, r.IntN(12)-2)
		}
	}
	if r.IntN(20) == 0 {
		x.Term = 0
	}
	return x
}

func randomKeep(r *rand.Rand, d *disk.Disk) []int {
	keep := make([]int, len(d.Names()))
	for i := range keep {
		keep[i] = r.IntN(80) - 10
	}
	return keep
}

// P6.3: random calls on disks that become full, or fail: the answers, what is seen, the files, what of them is durable and the steps are those of the model.
func TestRandomCalls(t *testing.T) {
	r := rand.New(rand.NewPCG(6, 3))
	for range 1500 {
		room := []int{1 << 20, 40 + r.IntN(120)}[r.IntN(2)]
		d, twin := disk.New(room), disk.New(room)
		s, m := open(t, d), &model{d: twin, vote: api.Vote{For: -1}}
		if r.IntN(2) == 0 {
			at := r.IntN(50)
			d.Arm(at)
			twin.Arm(at)
		}
		for range 25 {
			if r.IntN(2) == 0 {
				v := randomVote(r, m.vote)
				want := m.setVote(t, v)
				answers(t, fmt.Sprint("SetVote", v), s.SetVote(v), want)
			} else {
				x := randomSnapshot(r, m.snapshot)
				want := m.save(t, x)
				answers(t, "Save of "+written(x), s.Save(x), want)
			}
			sees(t, "a random call", s, m.sight())
			if look(d) != look(twin) {
				t.Fatalf("the disk is %s, want %s", look(d), look(twin))
			}
		}
	}
}

// crashed answers what is opened behind a crash, which must be the same again if the disk crashes once more.
func crashed(t *testing.T, r *rand.Rand, d *disk.Disk) (*stable.Stable, *disk.Disk) {
	t.Helper()
	found := d.Crash(randomKeep(r, d))
	s := open(t, found)
	seen := sight(t, s)
	sees(t, "opened again", open(t, found), seen)
	sees(t, "opened behind a further crash", open(t, found.Crash(nil)), seen)
	return s, found
}

// A vow is what a test knows of a disk that may crash: what was done last, and what may be there instead, as it was being written.
type vow struct {
	vote, mayVote         api.Vote
	snapshot, maySnapshot string
	given                 map[uint64]int
}

// call does a random call, and takes down what it has come to.
func (w *vow) call(t *testing.T, r *rand.Rand, s *stable.Stable) {
	if r.IntN(2) == 0 {
		v := randomVote(r, w.vote)
		switch s.SetVote(v) {
		case api.OK:
			w.vote, w.mayVote = v, v
			w.once(t, v)
		case api.ErrDiskDead:
			w.mayVote = v
		}
		return
	}
	x := randomSnapshot(r, snapshotOf(s))
	switch s.Save(x) {
	case api.OK:
		w.snapshot, w.maySnapshot = written(x), written(x)
	case api.ErrDiskDead:
		w.maySnapshot = written(x)
	}
}

// once fails the test if the vote is for another node than an earlier one in the same term.
func (w *vow) once(t *testing.T, v api.Vote) {
	t.Helper()
	if v.For == -1 {
		return
	}
	if who, there := w.given[v.Term]; there && who != v.For {
		t.Fatalf("in term %d there are votes for %d and for %d", v.Term, who, v.For)
	}
	w.given[v.Term] = v.For
}

// kept fails the test unless what was found is what was done last, or being written; that is what counts from then on.
func (w *vow) kept(t *testing.T, s *stable.Stable) {
	t.Helper()
	v, x := s.Vote(), written(snapshotOf(s))
	if v != w.vote && v != w.mayVote {
		t.Fatalf("the vote is %v, was %v, and %v was being written", v, w.vote, w.mayVote)
	}
	if x != w.snapshot && x != w.maySnapshot {
		t.Fatalf("the snapshot is %s, was %s, and %s was being written", x, w.snapshot, w.maySnapshot)
	}
	w.once(t, v)
	w.vote, w.mayVote, w.snapshot, w.maySnapshot = v, v, x, x
}

// P6.4: behind a crash at any time the vote and the snapshot are the last that were done, or those that were being written; and no term has votes for two nodes.
func TestCrash(t *testing.T) {
	r := rand.New(rand.NewPCG(6, 4))
	for range 400 {
		d := disk.New(1 << 20)
		s := open(t, d)
		w := &vow{vote: api.Vote{For: -1}, mayVote: api.Vote{For: -1}, snapshot: none, maySnapshot: none, given: map[uint64]int{}}
		for range 12 {
			d.Arm(r.IntN(30))
			for calls := 0; !d.Dead(); calls++ {
				if calls == 1000 {
					t.Fatal("nothing is written any more")
				}
				w.call(t, r, s)
			}
			s, d = crashed(t, r, d)
			w.kept(t, s)
		}
	}
}

// snapshotOf answers the snapshot, or the zero one.
func snapshotOf(s *stable.Stable) api.Snapshot {
	x, _ := s.Snapshot()
	return x
}

// P6.4: a crash at each step of either call, with each number of bytes left of what was being written.
func TestCrashAtEachStep(t *testing.T) {
	for at := range 8 {
		for keep := range 60 {
			s, d := settled(t)
			d.Arm(at)
			one := s.SetVote(api.Vote{Term: 6, For: 2})
			two := s.Save(snap(6, 2, "next"))
			found := open(t, d.Crash([]int{keep, keep, keep, keep}))
			vote, x := 5, snap(5, 5, "data")
			if one == api.OK {
				vote = 6
			}
			if at >= 6 {
				x = snap(6, 2, "next")
			}
			if found.Vote().Term != uint64(vote) || written(snapshotOf(found)) != written(x) {
				t.Fatalf("a crash at step %d: %s was found, and the calls answered %d, %d", at, sight(t, found), one, two)
			}
		}
	}
}

// P6.4: whatever the files are, Open answers, and answers the same again.
func TestAnyBytes(t *testing.T) {
	r := rand.New(rand.NewPCG(6, 5))
	for range 5000 {
		d := disk.New(1 << 20)
		for range r.IntN(6) {
			name := []string{"vote", "vote.new", "snap.new", snapName(r.Uint64N(4)), snapName(r.Uint64N(4)), snapName(r.Uint64())}[r.IntN(6)]
			must(t, d.Append(name, randomBytes(t, r)))
		}
		s, code := stable.Open(d)
		left := contents(d)
		again, same := stable.Open(d)
		if same != code || contents(d) != left {
			t.Fatalf("Open answers %d, then %d; the files were %s, then %s", code, same, left, contents(d))
		}
		if code != api.OK {
			answers(t, "Open", code, api.ErrStableForm)
			continue
		}
		sees(t, "opened again", again, sight(t, s))
	}
}

// randomBytes answers a file that is valid now and then.
func randomBytes(t *testing.T, r *rand.Rand) []byte {
	var b []byte
	switch r.IntN(4) {
	case 0:
		b = []byte(voteFile(t, r.Uint64N(3), r.IntN(10)-1))
	case 1:
		b = []byte(snapFile(t, snap(r.Uint64N(4), r.Uint64N(4), "x")))
	case 2:
		b = make([]byte, r.IntN(40))
		for i := range b {
			b[i] = byte(r.IntN(10))
		}
		b = []byte(framed(t, b))
	}
	if len(b) > 0 && r.IntN(5) == 0 {
		b = b[:r.IntN(len(b))]
	}
	return b
}
