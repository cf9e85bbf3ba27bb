package stable_test

import (
	"math"
	"slices"
	"strings"
	"testing"

	"dockyard/api"
	"dockyard/disk"
	"dockyard/stable"
)

// P6.1, P6.2: on an empty disk the vote is for nobody, and there is no snapshot; nothing is done to the disk.
func TestOpenEmpty(t *testing.T) {
	d := disk.New(0)
	sees(t, "an empty disk", open(t, d), "0:-1 "+none)
	if len(d.Names()) != 0 {
		t.Errorf("the files are %v", d.Names())
	}
	took(t, "an empty disk", d, 0)
}

// P6.1: the vote is that of its file; every vote that is valid is read.
func TestOpenVote(t *testing.T) {
	for _, c := range []struct {
		term uint64
		who  int
		want string
	}{
		{0, -1, "0:-1 "}, {1, -1, "1:-1 "}, {1, 0, "1:0 "}, {1, 7, "1:7 "}, {255, 3, "255:3 "}, {256, 3, "256:3 "},
		{math.MaxUint64, -1, "18446744073709551615:-1 "}, {math.MaxUint64, 7, "18446744073709551615:7 "},
	} {
		f := file{"vote", voteFile(t, c.term, c.who)}
		d := lay(t, f)
		sees(t, "a vote", open(t, d), c.want+none)
		has(t, "a vote", d, f)
		took(t, "a vote", d, 0)
	}
}

// P6.1: a file `vote` that is not just the frame of a valid vote is refused, and stays.
func TestOpenVoteRefused(t *testing.T) {
	good := voteFile(t, 3, 2)
	wrong := []string{
		"", "x", good[1:], good + "\x00", good + good, strings.ToUpper(good) + "x",
		framed(t, nil), framed(t, voteBytes(3, 2)[:8]), framed(t, append(voteBytes(3, 2), 0)), string(voteBytes(3, 2)),
		voteFile(t, 0, 0), voteFile(t, 0, 7), voteFile(t, 3, 8), voteFile(t, 3, 100), voteFile(t, 3, 254), voteFile(t, 0, 8),
		snapFile(t, snap(3, 2, "")),
	}
	for n := range len(good) {
		wrong = append(wrong, good[:n])
	}
	for i, contents := range wrong {
		f := file{"vote", contents}
		d := lay(t, f)
		refused(t, "a wrong vote", d, api.ErrStableForm)
		has(t, "a wrong vote", d, f)
		if d.Steps() != 0 {
			t.Errorf("wrong vote %d: %d steps were done", i, d.Steps())
		}
	}
}

// P6.1: no inverted bit of a vote is overlooked.
func TestOpenVoteInverted(t *testing.T) {
	for _, f := range []file{{"vote", voteFile(t, 3, 2)}, {"vote", voteFile(t, 0, -1)}} {
		for bit := range 8 * len(f.contents) {
			d := lay(t, f)
			d.Flip("vote", bit/8, bit%8)
			refused(t, "an inverted bit", d, api.ErrStableForm)
		}
	}
}

// P6.1: every valid snapshot is read from a file with its number.
func TestOpenSnapshot(t *testing.T) {
	eight := []int{7, 6, 5, 4, 3, 2, 1, 0}
	for _, x := range []api.Snapshot{
		{Index: 1, Term: 1},
		{Index: 10, Term: 2, Data: []byte{0}},
		{Index: math.MaxUint64, Term: math.MaxUint64, Config: api.Config{Voters: eight}},
		{Index: 0xabcdef, Term: 1, Config: api.Config{Learners: eight}, Data: []byte("d")},
		{Index: 7, Term: 9, Config: api.Config{Voters: eight, Learners: eight}},
		{Index: 7, Term: 9, Config: api.Config{Voters: []int{3, 3}, Learners: []int{3, 0, 3}}},
		{Index: 1 << 60, Term: 5, Data: slices.Repeat([]byte{0xfe}, api.MaxSnap)},
	} {
		f := file{snapName(x.Index), snapFile(t, x)}
		d := lay(t, f)
		sees(t, "a snapshot", open(t, d), "0:-1 "+written(x))
		has(t, "a snapshot", d, f)
		took(t, "a snapshot", d, 0)
	}
}

// wrongSnapshots answers files with names of snapshots that are not valid.
func wrongSnapshots(t *testing.T) []file {
	nine := make([]int, 9)
	good := snapFile(t, snap(9, 2, "data"))
	name := snapName(9)
	l := []file{
		{name, ""}, {name, "x"}, {name, good + "x"}, {name, good + good}, {name, good[1:]}, {name, string(snapBytes(snap(9, 2, "data")))},
		{snapName(10), good}, {snapName(8), good}, {snapName(0), good}, {snapName(math.MaxUint64), good},
		{snapName(0), snapFile(t, api.Snapshot{Term: 1})}, {name, snapFile(t, api.Snapshot{Term: 1})}, {name, snapFile(t, api.Snapshot{Index: 9})},
		{name, framed(t, nil)}, {name, voteFile(t, 9, 2)},
		{name, snapFile(t, api.Snapshot{Index: 9, Term: 1, Data: make([]byte, api.MaxSnap+1)})},
	}
	for _, bad := range [][]int{{8}, {0, 255}, {7, 7, 8}, nine} {
		l = append(l, file{name, snapFile(t, api.Snapshot{Index: 9, Term: 1, Config: api.Config{Voters: bad}})})
		l = append(l, file{name, snapFile(t, api.Snapshot{Index: 9, Term: 1, Config: api.Config{Learners: bad}})})
	}
	for n := range len(good) {
		l = append(l, file{name, good[:n]})
	}
	// Lists that end too soon: the bytes of a snapshot without data, cut anywhere.
	short := snapBytes(snap(9, 2, ""))
	for n := range len(short) {
		l = append(l, file{name, framed(t, short[:n])})
	}
	for bit := range 8 * len(good) {
		b := []byte(good)
		b[bit/8] ^= 1 << (bit % 8)
		l = append(l, file{name, string(b)})
	}
	return l
}

// P6.1: files with names of snapshots that are not valid are removed, and none of them is the snapshot.
func TestOpenWrongSnapshot(t *testing.T) {
	low, high := snap(7, 1, "low"), snap(11, 3, "high")
	for i, f := range wrongSnapshots(t) {
		d := lay(t, f)
		sees(t, "a wrong snapshot", open(t, d), "0:-1 "+none)
		has(t, "a wrong snapshot", d)
		took(t, "a wrong snapshot", d, 1)

		others := []file{{snapName(7), snapFile(t, low)}, {"vote", voteFile(t, 2, 2)}}
		d = lay(t, append([]file{f}, others...)...)
		sees(t, "a wrong snapshot beside a lower one", open(t, d), "2:2 "+written(low))
		has(t, "a wrong snapshot beside a lower one", d, others...)

		others = []file{{snapName(11), snapFile(t, high)}}
		d = lay(t, append([]file{f}, others...)...)
		sees(t, "a wrong snapshot beside a greater one", open(t, d), "0:-1 "+written(high))
		has(t, "a wrong snapshot beside a greater one", d, others...)
		if t.Failed() {
			t.Fatalf("wrong snapshot %d: %s %q", i, f.name, f.contents)
		}
	}
}

// P6.1: what has other names is ignored, whatever it holds.
func TestOpenOtherFiles(t *testing.T) {
	contents := snapFile(t, snap(9, 2, "data"))
	var files []file
	for _, name := range []string{
		"snap.000000000000000A", "snap.00000000000000009", "snap.000000000000009", "snap.", "snap", "snap.9",
		"snap.00000000000000g0", "Snap.0000000000000009", "snap-0000000000000009", "0000000000000009",
		"snap.+000000000000009", "snap.0x00000000000009", "snap.000000000000_009", "snap.new.", "snap.ne", "asnap.0000000000000009",
		"snap.snap.00000000000", "snap.0000000000000009x", "snap.000000000000000:", "snap.000000000000000/", "snap.000000000000000`",
		"vote.", "vote.ne", "vote.newer", "votes", "Vote", "wal.0000000000000001", "vot",
	} {
		files = append(files, file{name, contents})
	}
	d := lay(t, files...)
	sees(t, "other files", open(t, d), "0:-1 "+none)
	has(t, "other files", d, files...)
	took(t, "other files", d, 0)
	must(t, open(t, d).SetVote(api.Vote{Term: 1, For: 1}), open(t, d).Save(snap(2, 2, "x")))
	has(t, "other files", d, append(files, file{"vote", voteFile(t, 1, 1)}, file{snapName(2), snapFile(t, snap(2, 2, "x"))})...)
}

// P6.1: of several valid snapshots the one with the greatest number is taken, though its term is less; the others are removed.
func TestOpenGreatest(t *testing.T) {
	var files []file
	for _, index := range []uint64{2, 9, 10, 16, 0x9f, 0xa0, 1 << 63} {
		x := snap(index, 1000-index%1000, "x")
		files = append(files, file{snapName(index), snapFile(t, x)})
		d := lay(t, files...)
		sees(t, "several snapshots", open(t, d), "0:-1 "+written(x))
		has(t, "several snapshots", d, files[len(files)-1])
		took(t, "several snapshots", d, len(files)-1)
	}
}

// a mess has something of all that Open removes; gone tells in which order, and taken what stays.
func mess(t *testing.T) (d *disk.Disk, gone []string, taken string) {
	good := func(index uint64) file { return file{snapName(index), snapFile(t, snap(index, 2, "data"))} }
	files := []file{
		{"vote.new", "half"}, {"snap.new", ""}, {snapName(0), "no"}, good(3), {snapName(4), "no"}, good(5), {snapName(6), "no"}, good(0xa), {snapName(0xb), "no"}, {snapName(math.MaxUint64), "no"},
	}
	for _, f := range files {
		gone = append(gone, f.name)
	}
	taken = snapName(0xa)
	gone = slices.DeleteFunc(gone, func(name string) bool { return name == taken })
	return lay(t, append(files, file{"vote", voteFile(t, 4, 1)}, file{"other", "o"})...), gone, taken
}

// P6.1: the order in which files are removed, by a disk that fails at each of the steps; what was removed stays removed.
func TestOpenOrder(t *testing.T) {
	whole, gone, taken := mess(t)
	for at := range len(gone) {
		d, want := whole.Clone(), whole.Clone()
		d.Arm(at)
		refused(t, "a disk that fails", d, api.ErrDiskDead)
		for _, name := range gone[:at] {
			must(t, want.Remove(name))
		}
		if got, left := contents(d), contents(want); got != left {
			t.Errorf("failing at step %d: the files are %s, want %s", at, got, left)
		}
		refused(t, "a dead disk", d, api.ErrDiskDead)
		took(t, "a dead disk", d, at+1)
		sees(t, "opened behind a crash", open(t, d.Crash(nil)), "4:1 "+written(snap(0xa, 2, "data")))
	}
	whole.Arm(len(gone))
	sees(t, "a disk that fails later", open(t, whole), "4:1 "+written(snap(0xa, 2, "data")))
	if want := []string{"other", taken, "vote"}; !slices.Equal(whole.Names(), want) {
		t.Errorf("the files are %v, want %v", whole.Names(), want)
	}
	took(t, "a disk that fails later", whole, len(gone))
}

// P6.1: each of the unfinished files is removed alone, too.
func TestOpenUnfinished(t *testing.T) {
	vote, one := file{"vote", voteFile(t, 4, 1)}, file{snapName(3), snapFile(t, snap(3, 2, "data"))}
	for _, f := range []file{{"vote.new", ""}, {"vote.new", voteFile(t, 9, 2)}, {"snap.new", ""}, {"snap.new", snapFile(t, snap(9, 2, "new"))}} {
		d := lay(t, f, vote, one)
		sees(t, "an unfinished file", open(t, d), "4:1 "+written(snap(3, 2, "data")))
		has(t, "an unfinished file", d, vote, one)
		took(t, "an unfinished file", d, 1)
	}
}

// P6.1: the first error is answered: a failing disk's ahead of that of the vote, behind which no snapshot is removed.
func TestOpenFirstError(t *testing.T) {
	files := []file{{"vote", "no"}, {snapName(1), "no"}, {snapName(2), snapFile(t, snap(2, 2, "data"))}}
	d := lay(t, append(files, file{"vote.new", "half"}, file{"snap.new", "half"})...)
	for at := range 2 {
		failing := d.Clone()
		failing.Arm(at)
		refused(t, "a failing disk", failing, api.ErrDiskDead)
	}
	d.Arm(2)
	refused(t, "a wrong vote", d, api.ErrStableForm)
	has(t, "a wrong vote", d, files...)
	took(t, "a wrong vote", d, 2)
}

// P6.1: Open of a dead disk on which nothing is to be removed reads what is there; the writes are refused then.
func TestOpenDead(t *testing.T) {
	d := lay(t, file{"vote", voteFile(t, 4, 1)}, file{snapName(3), snapFile(t, snap(3, 2, "data"))})
	d.Arm(0)
	answers(t, "the armed step", d.Append("other", nil), api.ErrDiskDead)
	s := open(t, d)
	sees(t, "a dead disk", s, "4:1 "+written(snap(3, 2, "data")))
	answers(t, "the same vote", s.SetVote(api.Vote{Term: 4, For: 1}), api.OK)
	answers(t, "a vote on a dead disk", s.SetVote(api.Vote{Term: 5, For: 1}), api.ErrDiskDead)
	sees(t, "a dead disk", s, "4:1 "+written(snap(3, 2, "data")))
}

// P6.1: the disk is kept: what is written goes there, and to no other.
func TestOpenKeepsDisk(t *testing.T) {
	d := disk.New(100)
	s, code := stable.Open(d)
	must(t, code)
	copied := d.Clone()
	must(t, s.SetVote(api.Vote{Term: 1, For: 0}))
	has(t, "the disk", d, file{"vote", voteFile(t, 1, 0)})
	has(t, "its clone", copied)
}
