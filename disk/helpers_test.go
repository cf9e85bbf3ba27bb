package disk_test

import (
	"bytes"
	"slices"
	"strings"
	"testing"

	"dockyard/api"
	"dockyard/disk"
)

// must fails the test unless the operation was done.
func must(t *testing.T, errs ...api.Errno) {
	t.Helper()
	for i, e := range errs {
		if e != api.OK {
			t.Fatalf("operation %d answers %d, want OK", i, e)
		}
	}
}

func refused(t *testing.T, what string, got, want api.Errno) {
	t.Helper()
	if got != want {
		t.Errorf("%s answers %d, want %d", what, got, want)
	}
}

// holds fails the test unless the file is there with just these bytes.
func holds(t *testing.T, d *disk.Disk, name, want string) {
	t.Helper()
	got, ok := d.Read(name)
	if !ok || string(got) != want {
		t.Errorf("Read(%q) = %q, %v, want %q", name, got, ok, want)
	}
}

func lacks(t *testing.T, d *disk.Disk, name string) {
	t.Helper()
	if got, ok := d.Read(name); got != nil || ok {
		t.Errorf("Read(%q) = %q, %v, want no file", name, got, ok)
	}
}

// A sight is all that can be seen of a disk without changing it.
type sight struct {
	names  string
	files  string
	synced string
	free   int
	steps  int
	dead   bool
}

func look(d *disk.Disk) sight {
	s := sight{names: strings.Join(d.Names(), " "), free: d.Free(), steps: d.Steps(), dead: d.Dead()}
	s.files = contents(d)
	s.synced = contents(d.Crash(nil))
	return s
}

func contents(d *disk.Disk) string {
	var b bytes.Buffer
	for _, name := range d.Names() {
		f, _ := d.Read(name)
		b.WriteString(name + "=" + string(f) + ";")
	}
	return b.String()
}

// fill overwrites a result with its capacity: nothing else may change by that.
func fill(b []byte) {
	b = b[:cap(b)]
	for i := range b {
		b[i] = 0xee
	}
}

func sameNames(t *testing.T, d *disk.Disk, want ...string) {
	t.Helper()
	if got := d.Names(); !slices.Equal(got, want) {
		t.Errorf("Names = %q, want %q", got, want)
	}
}

// three has a file that is durable, one that is in part, and one that is not at all.
func three(t *testing.T) *disk.Disk {
	t.Helper()
	d := disk.New(100)
	must(t, d.Append("all", []byte("abc")), d.Sync("all"))
	must(t, d.Append("half", []byte("de")), d.Sync("half"), d.Append("half", []byte("fgh")))
	must(t, d.Append("none", []byte("ij")))
	return d
}
