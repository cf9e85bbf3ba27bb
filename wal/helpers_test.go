package wal_test

import (
	"fmt"
	"strings"
	"testing"

	"dockyard/api"
	"dockyard/codec"
	"dockyard/disk"
	"dockyard/entry"
	"dockyard/wal"
)

// put answers entries of a term, from an index on, each with one of these data.
func put(from, term uint64, data ...string) []api.Entry {
	var l []api.Entry
	for i, s := range data {
		l = append(l, api.Entry{Index: from + uint64(i), Term: term, Kind: api.EntryCommand, Data: []byte(s)})
	}
	return l
}

// frames answers entries as they stand in a segment.
func frames(t *testing.T, l ...api.Entry) string {
	t.Helper()
	var s strings.Builder
	for _, e := range l {
		b, code := entry.Encode(e)
		if code != api.OK {
			t.Fatalf("Encode of %v answers %d", e, code)
		}
		s.WriteString(framed(t, b))
	}
	return s.String()
}

func framed(t *testing.T, b []byte) string {
	t.Helper()
	frame, code := codec.Frame(b)
	if code != api.OK {
		t.Fatalf("Frame answers %d", code)
	}
	return string(frame)
}

func name(number uint64) string { return fmt.Sprintf("wal.%016x", number) }

// written answers an entry as a short text.
func written(e api.Entry) string {
	return fmt.Sprintf("%d/%d/%d:%s", e.Index, e.Term, e.Kind, e.Data)
}

func writtenAll(l []api.Entry) string {
	var s []string
	for _, e := range l {
		s = append(s, written(e))
	}
	return strings.Join(s, " ")
}

// collect answers what a loop over All is given.
func collect(w *wal.Wal, from uint64) string {
	var l []api.Entry
	for e := range w.All(from) {
		l = append(l, e)
	}
	return writtenAll(l)
}

// sight answers all that can be seen of a log; Get must answer what All does.
func sight(t *testing.T, w *wal.Wal) string {
	t.Helper()
	var got []api.Entry
	for i := range w.Last() - w.First() + 1 {
		e, there := w.Get(w.First() + i)
		if !there {
			t.Fatalf("Get(%d) answers false, First is %d, and Last is %d", w.First()+i, w.First(), w.Last())
		}
		got = append(got, e)
	}
	all := collect(w, 0)
	if s := writtenAll(got); s != all {
		t.Fatalf("Get answers %s, All %s", s, all)
	}
	for _, none := range []uint64{0, w.First() - 1, w.Last() + 1} {
		if e, there := w.Get(none); there || written(e) != written(api.Entry{}) || e.Data != nil {
			t.Fatalf("Get(%d) answers %v, %v", none, e, there)
		}
	}
	return fmt.Sprintf("%d-%d %s", w.First(), w.Last(), all)
}

func sees(t *testing.T, what string, w *wal.Wal, want string) {
	t.Helper()
	if got := sight(t, w); got != want {
		t.Errorf("%s: the log is %s, want %s", what, got, want)
	}
}

func answers(t *testing.T, what string, got, want api.Errno) {
	t.Helper()
	if got != want {
		t.Errorf("%s answers %d, want %d", what, got, want)
	}
}

// must fails the test unless the calls were done.
func must(t *testing.T, codes ...api.Errno) {
	t.Helper()
	for i, code := range codes {
		if code != api.OK {
			t.Fatalf("call %d answers %d, want OK", i, code)
		}
	}
}

func open(t *testing.T, d *disk.Disk, limit int) *wal.Wal {
	t.Helper()
	w, code := wal.Open(d, limit)
	if code != api.OK || w == nil {
		t.Fatalf("Open answers %d", code)
	}
	return w
}

// fresh answers a log on an empty disk with room for anything.
func fresh(t *testing.T, limit int) (*wal.Wal, *disk.Disk) {
	t.Helper()
	d := disk.New(1 << 20)
	return open(t, d, limit), d
}

// A file is one that a test lays on a disk.
type file struct{ name, contents string }

// lay answers a disk with files of which nothing is durable.
func lay(t *testing.T, files ...file) *disk.Disk {
	t.Helper()
	d := disk.New(1 << 20)
	for _, f := range files {
		must(t, d.Append(f.name, []byte(f.contents)))
	}
	return d
}

// contents answers the names and the bytes of all files.
func contents(d *disk.Disk) string {
	var s strings.Builder
	for _, n := range d.Names() {
		b, _ := d.Read(n)
		fmt.Fprintf(&s, "%s=%q;", n, b)
	}
	return s.String()
}

// look answers all that can be seen of a disk.
func look(d *disk.Disk) string {
	return fmt.Sprintf("%s durable %s steps %d dead %v", contents(d), contents(d.Crash(nil)), d.Steps(), d.Dead())
}

// has fails the test unless a disk has just these files.
func has(t *testing.T, what string, d *disk.Disk, files ...file) {
	t.Helper()
	if got, want := contents(d), contents(lay(t, files...)); got != want {
		t.Errorf("%s: the files are\n%s, want\n%s", what, got, want)
	}
}

// durable fails the test unless a crash leaves just these files.
func durable(t *testing.T, what string, d *disk.Disk, files ...file) {
	t.Helper()
	has(t, what+", and a crash", d.Crash(nil), files...)
}

// fill overwrites a slice with its capacity: nothing else may change by that.
func fill(b []byte) {
	b = b[:cap(b)]
	for i := range b {
		b[i] = 0xee
	}
}
