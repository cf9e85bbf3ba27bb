package stable_test

import (
	"encoding/binary"
	"fmt"
	"strings"
	"testing"

	"dockyard/api"
	"dockyard/codec"
	"dockyard/disk"
	"dockyard/stable"
)

// framed answers the frame of some bytes.
func framed(t *testing.T, b []byte) string {
	t.Helper()
	frame, code := codec.Frame(b)
	if code != api.OK {
		t.Fatalf("Frame answers %d", code)
	}
	return string(frame)
}

// voteBytes answers what the frame of a vote holds.
func voteBytes(term uint64, who int) []byte {
	return append(binary.BigEndian.AppendUint64(nil, term), byte(who+1))
}

// voteFile answers a vote as it stands in its file.
func voteFile(t *testing.T, term uint64, who int) string {
	t.Helper()
	return framed(t, voteBytes(term, who))
}

// snapBytes answers what the frame of a snapshot holds.
func snapBytes(x api.Snapshot) []byte {
	b := binary.BigEndian.AppendUint64(nil, x.Index)
	b = binary.BigEndian.AppendUint64(b, x.Term)
	for _, l := range [][]int{x.Config.Voters, x.Config.Learners} {
		b = append(b, byte(len(l)))
		for _, n := range l {
			b = append(b, byte(n))
		}
	}
	return append(b, x.Data...)
}

// snapFile answers a snapshot as it stands in its file.
func snapFile(t *testing.T, x api.Snapshot) string {
	t.Helper()
	return framed(t, snapBytes(x))
}

func snapName(number uint64) string { return fmt.Sprintf("snap.%016x", number) }

// snap answers a snapshot with some of everything.
func snap(index, term uint64, data string) api.Snapshot {
	return api.Snapshot{Index: index, Term: term, Config: api.Config{Voters: []int{0, 2, 7}, Learners: []int{5}}, Data: []byte(data)}
}

// written answers a snapshot as a short text, in which nil and empty lists are the same.
func written(x api.Snapshot) string {
	return fmt.Sprintf("%d/%d %v %v %q", x.Index, x.Term, x.Config.Voters, x.Config.Learners, x.Data)
}

// none is what is written of the zero snapshot.
const none = `0/0 [] [] ""`

// sight answers all that can be seen of a vote and a snapshot.
func sight(t *testing.T, s *stable.Stable) string {
	t.Helper()
	x, there := s.Snapshot()
	if there == (written(x) == none) {
		t.Fatalf("Snapshot answers %s, %v", written(x), there)
	}
	return fmt.Sprintf("%d:%d %s", s.Vote().Term, s.Vote().For, written(x))
}

func sees(t *testing.T, what string, s *stable.Stable, want string) {
	t.Helper()
	if got := sight(t, s); got != want {
		t.Errorf("%s: seen is %s, want %s", what, got, want)
	}
}

func answers(t *testing.T, what string, got, want api.Errno) {
	t.Helper()
	if got != want {
		t.Errorf("%s answers %d, want %d", what, got, want)
	}
}

// must fails the test unless the calls were done.
func must(t *testing.T, codes ...api.Errno) {
	t.Helper()
	for i, code := range codes {
		if code != api.OK {
			t.Fatalf("call %d answers %d, want OK", i, code)
		}
	}
}

func open(t *testing.T, d *disk.Disk) *stable.Stable {
	t.Helper()
	s, code := stable.Open(d)
	if code != api.OK || s == nil {
		t.Fatalf("Open answers %d", code)
	}
	return s
}

// refused fails the test unless Open answers an error alone.
func refused(t *testing.T, what string, d *disk.Disk, want api.Errno) {
	t.Helper()
	s, code := stable.Open(d)
	answers(t, what, code, want)
	if s != nil {
		t.Errorf("%s: Open answers something beside the error", what)
	}
}

// fresh answers what is opened on an empty disk with room for anything.
func fresh(t *testing.T) (*stable.Stable, *disk.Disk) {
	t.Helper()
	d := disk.New(1 << 23)
	return open(t, d), d
}

// A file is one that a test lays on a disk.
type file struct{ name, contents string }

// lay answers a disk with files, all of them durable, and no step done.
func lay(t *testing.T, files ...file) *disk.Disk {
	t.Helper()
	d := disk.New(1 << 23)
	for _, f := range files {
		must(t, d.Append(f.name, []byte(f.contents)), d.Sync(f.name))
	}
	return d.Crash(nil)
}

// contents answers the names and the bytes of all files.
func contents(d *disk.Disk) string {
	var s strings.Builder
	for _, n := range d.Names() {
		b, _ := d.Read(n)
		fmt.Fprintf(&s, "%s=%q;", n, b)
	}
	return s.String()
}

// look answers all that can be seen of a disk.
func look(d *disk.Disk) string {
	return fmt.Sprintf("%s durable %s steps %d dead %v", contents(d), contents(d.Crash(nil)), d.Steps(), d.Dead())
}

// has fails the test unless a disk has just these files, and they are durable.
func has(t *testing.T, what string, d *disk.Disk, files ...file) {
	t.Helper()
	want := contents(lay(t, files...))
	if got := contents(d); got != want {
		t.Errorf("%s: the files are\n%s, want\n%s", what, got, want)
	}
	if got := contents(d.Crash(nil)); got != want {
		t.Errorf("%s, and a crash: the files are\n%s, want\n%s", what, got, want)
	}
}

// took fails the test unless a disk has done so many steps.
func took(t *testing.T, what string, d *disk.Disk, steps int) {
	t.Helper()
	if d.Steps() != steps {
		t.Errorf("%s: %d steps were done, want %d", what, d.Steps(), steps)
	}
}

// fill overwrites a slice with its capacity: nothing else may change by that.
func fill[T any](l []T, x T) {
	l = l[:cap(l)]
	for i := range l {
		l[i] = x
	}
}
