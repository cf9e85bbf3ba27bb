package disk_test

import (
	"math"
	"strconv"
	"strings"
	"testing"

	"dockyard/api"
	"dockyard/disk"
)

// The chapter's table of examples, line by line.
func TestExamples(t *testing.T) {
	d := disk.New(10)
	must(t, d.Append("a", []byte{1, 2, 3}), d.Sync("a"), d.Append("a", []byte{4, 5}))
	holds(t, d, "a", "\x01\x02\x03\x04\x05")
	if d.Free() != 5 {
		t.Errorf("Free = %d, want 5", d.Free())
	}
	holds(t, d.Crash(nil), "a", "\x01\x02\x03")
	holds(t, d.Crash([]int{1}), "a", "\x01\x02\x03\x04")
	holds(t, d.Crash([]int{9}), "a", "\x01\x02\x03\x04\x05")
	refused(t, "Append of six bytes", d.Append("b", make([]byte, 6)), api.ErrDiskFull)
	refused(t, "Append to the empty name", d.Append("", nil), api.ErrDiskName)
	refused(t, "Sync of no file", d.Sync("b"), api.ErrDiskNone)
	must(t, d.Truncate("a", 2))
	refused(t, "Truncate beyond the end", d.Truncate("a", 3), api.ErrDiskRange)
	holds(t, d.Crash(nil), "a", "\x01\x02")
	must(t, d.Rename("a", "c"))
	sameNames(t, d, "c")
	if d.Steps() != 5 {
		t.Errorf("Steps = %d, want 5", d.Steps())
	}
	d.Arm(1)
	must(t, d.Append("c", []byte{9}))
	refused(t, "the armed step", d.Sync("c"), api.ErrDiskDead)
	if !d.Dead() {
		t.Error("the disk is not dead")
	}
	refused(t, "Append when dead", d.Append("c", []byte{9}), api.ErrDiskDead)
	if d.Steps() != 7 {
		t.Errorf("Steps = %d, want 7", d.Steps())
	}
}

// P2.1: a new disk is empty, alive and not armed; a negative room is 0.
func TestNew(t *testing.T) {
	for _, c := range []struct{ room, want int }{
		{10, 10}, {1, 1}, {0, 0}, {-1, 0}, {math.MinInt, 0}, {math.MaxInt, math.MaxInt},
	} {
		d := disk.New(c.room)
		if d.Free() != c.want || d.Steps() != 0 || d.Dead() || len(d.Names()) != 0 {
			t.Errorf("New(%d): %+v", c.room, look(d))
		}
		for range 1000 {
			must(t, d.Append("a", nil))
		}
	}
	refused(t, "Append without room", disk.New(-1).Append("a", []byte{1}), api.ErrDiskFull)
}

// P2.2 and the section Files: which names an Append and a Rename take.
func TestNamesAllowed(t *testing.T) {
	longest := strings.Repeat("n", api.MaxFile)
	for _, name := range []string{"a", "!", "~", "!~", longest, "../x", "wal-1"} {
		d := disk.New(10)
		must(t, d.Append(name, []byte("x")))
		sameNames(t, d, name)
		d = disk.New(10)
		must(t, d.Append("from", []byte("x")), d.Rename("from", name))
		holds(t, d, name, "x")
	}
	wrong := []string{"", " ", "a b", "\x20", "\x7f", "a\x00", "a\n", "\x80", "é", longest + "n", "a ", " a"}
	for _, name := range wrong {
		d := disk.New(10)
		must(t, d.Append("from", []byte("x")))
		before := look(d)
		refused(t, "Append to "+strconv.Quote(name), d.Append(name, []byte("y")), api.ErrDiskName)
		refused(t, "Rename to "+strconv.Quote(name), d.Rename("from", name), api.ErrDiskName)
		if look(d) != before {
			t.Errorf("%q: a refusal changed the disk: %+v", name, look(d))
		}
	}
}

// Every byte on its own: valid from 33 to 126.
func TestNameBytes(t *testing.T) {
	for b := range 256 {
		want := api.ErrDiskName
		if b >= 33 && b <= 126 {
			want = api.OK
		}
		refused(t, "a name of one byte", disk.New(0).Append(string([]byte{byte(b)}), nil), want)
	}
}

// P2.2: the bytes go behind the end, and are not durable; no bytes create a file too.
func TestAppend(t *testing.T) {
	d := disk.New(10)
	must(t, d.Append("a", nil))
	holds(t, d, "a", "")
	must(t, d.Append("a", []byte("12")), d.Append("b", []byte("x")), d.Append("a", []byte("3")))
	holds(t, d, "a", "123")
	holds(t, d, "b", "x")
	holds(t, d.Crash(nil), "a", "")
	if d.Steps() != 4 || d.Free() != 6 {
		t.Errorf("Steps, Free = %d, %d, want 4, 6", d.Steps(), d.Free())
	}
}

// P2.2, P2.8: the last byte of the room may be taken, and one more is refused whole.
func TestFull(t *testing.T) {
	d := disk.New(3)
	must(t, d.Append("a", []byte("12")))
	before := look(d)
	refused(t, "two bytes", d.Append("b", []byte("xy")), api.ErrDiskFull)
	refused(t, "two bytes more", d.Append("a", []byte("xy")), api.ErrDiskFull)
	if look(d) != before {
		t.Errorf("a refused Append changed the disk: %+v", look(d))
	}
	must(t, d.Append("b", []byte("x")))
	refused(t, "one byte", d.Append("b", []byte("y")), api.ErrDiskFull)
	must(t, d.Append("b", nil))
	refused(t, "a wrong name and too many bytes", d.Append("", []byte("xyz")), api.ErrDiskName)
	must(t, d.Remove("a"))
	must(t, d.Append("b", []byte("yz")))
	holds(t, d, "b", "xyz")
}

// P2.2: Sync makes all bytes of one file durable, and only of this one.
func TestSync(t *testing.T) {
	d := disk.New(10)
	must(t, d.Append("a", []byte("12")), d.Append("b", []byte("34")), d.Sync("a"))
	holds(t, d.Crash(nil), "a", "12")
	holds(t, d.Crash(nil), "b", "")
	must(t, d.Append("a", []byte("5")))
	holds(t, d.Crash(nil), "a", "12")
	must(t, d.Sync("a"), d.Sync("a"))
	holds(t, d.Crash(nil), "a", "125")
	if d.Steps() != 6 {
		t.Errorf("Steps = %d, want 6", d.Steps())
	}
}

// P2.2: Truncate keeps the first bytes, with the durability that they had.
func TestTruncate(t *testing.T) {
	for _, c := range []struct {
		n            int
		want, synced string
	}{{5, "12345", "123"}, {4, "1234", "123"}, {3, "123", "123"}, {2, "12", "12"}, {0, "", ""}} {
		d := disk.New(10)
		must(t, d.Append("a", []byte("123")), d.Sync("a"), d.Append("a", []byte("45")), d.Truncate("a", c.n))
		holds(t, d, "a", c.want)
		holds(t, d.Crash(nil), "a", c.synced)
		if d.Free() != 10-c.n || d.Steps() != 4 {
			t.Errorf("Truncate(%d): Free, Steps = %d, %d", c.n, d.Free(), d.Steps())
		}
		// What is appended then is not durable, though durable bytes were there once.
		must(t, d.Append("a", []byte("z")))
		holds(t, d, "a", c.want+"z")
		holds(t, d.Crash(nil), "a", c.synced)
	}
}

func TestTruncateRange(t *testing.T) {
	d := three(t)
	before := look(d)
	for _, n := range []int{-1, math.MinInt, 4, math.MaxInt} {
		refused(t, "Truncate", d.Truncate("all", n), api.ErrDiskRange)
		refused(t, "Truncate of no file", d.Truncate("x", n), api.ErrDiskNone)
	}
	if look(d) != before {
		t.Errorf("a refusal changed the disk: %+v", look(d))
	}
}

// P2.2: Rename moves the bytes with their durability, and removes the file that had the name.
func TestRename(t *testing.T) {
	d := three(t)
	must(t, d.Rename("half", "other"))
	sameNames(t, d, "all", "none", "other")
	holds(t, d, "other", "defgh")
	holds(t, d.Crash(nil), "other", "de")
	lacks(t, d, "half")
	must(t, d.Rename("other", "all"))
	sameNames(t, d, "all", "none")
	holds(t, d, "all", "defgh")
	holds(t, d.Crash(nil), "all", "de")
	if d.Free() != 100-5-2 || d.Steps() != 8 {
		t.Errorf("Free, Steps = %d, %d", d.Free(), d.Steps())
	}
}

// P2.2: to its own name, a Rename changes nothing, but is a step.
func TestRenameToItself(t *testing.T) {
	d := three(t)
	before := look(d)
	must(t, d.Rename("half", "half"))
	before.steps++
	if look(d) != before {
		t.Errorf("%+v, want %+v", look(d), before)
	}
	d.Arm(0)
	refused(t, "an armed Rename to itself", d.Rename("half", "half"), api.ErrDiskDead)
}

// P2.2: the errors in their order; a refusal is no step.
func TestNoFile(t *testing.T) {
	d := three(t)
	d.Arm(0)
	before := look(d)
	for _, name := range []string{"x", "", "a b", strings.Repeat("x", 99)} {
		refused(t, "Sync", d.Sync(name), api.ErrDiskNone)
		refused(t, "Truncate", d.Truncate(name, 0), api.ErrDiskNone)
		refused(t, "Rename", d.Rename(name, "all"), api.ErrDiskNone)
		refused(t, "Rename to a wrong name", d.Rename(name, ""), api.ErrDiskNone)
		refused(t, "Remove", d.Remove(name), api.ErrDiskNone)
	}
	if look(d) != before {
		t.Errorf("a refusal changed the disk: %+v", look(d))
	}
}

// P2.2: Remove takes the file away at once and for good.
func TestRemove(t *testing.T) {
	d := three(t)
	must(t, d.Remove("all"))
	lacks(t, d, "all")
	lacks(t, d.Crash([]int{9, 9, 9}), "all")
	sameNames(t, d, "half", "none")
	if d.Free() != 100-7 || d.Steps() != 7 {
		t.Errorf("Free, Steps = %d, %d", d.Free(), d.Steps())
	}
	// A file of that name that comes later begins anew.
	must(t, d.Append("all", []byte("z")))
	holds(t, d, "all", "z")
	holds(t, d.Crash(nil), "all", "")
}

// An operation that is a step on the disk of three.
type operation struct {
	name string
	do   func(d *disk.Disk) api.Errno
}

func operations() []operation {
	return []operation{
		{"Append", func(d *disk.Disk) api.Errno { return d.Append("all", []byte("zz")) }},
		{"Append of a new file", func(d *disk.Disk) api.Errno { return d.Append("new", nil) }},
		{"Sync", func(d *disk.Disk) api.Errno { return d.Sync("half") }},
		{"Truncate", func(d *disk.Disk) api.Errno { return d.Truncate("half", 1) }},
		{"Rename", func(d *disk.Disk) api.Errno { return d.Rename("half", "none") }},
		{"Remove", func(d *disk.Disk) api.Errno { return d.Remove("half") }},
	}
}

// P2.2: at the step at which the disk fails, nothing happens but for the bytes of an Append.
func TestFailingStep(t *testing.T) {
	for _, o := range operations() {
		d := three(t)
		want := look(d)
		d.Arm(0)
		refused(t, o.name, o.do(d), api.ErrDiskDead)
		want.steps++
		want.dead = true
		switch o.name {
		case "Append":
			want.files, want.free = "all=abczz;half=defgh;none=ij;", want.free-2
		case "Append of a new file":
			want.names = "all half new none"
			want.files, want.synced = "all=abc;half=defgh;new=;none=ij;", "all=abc;half=de;new=;none=;"
		}
		if got := look(d); got != want {
			t.Errorf("%s: %+v, want %+v", o.name, got, want)
		}
	}
}

// P2.2: a dead disk answers ErrDiskDead ahead of all other errors, and nothing changes.
func TestDead(t *testing.T) {
	d := three(t)
	d.Arm(0)
	refused(t, "the armed step", d.Sync("half"), api.ErrDiskDead)
	before := look(d)
	for _, o := range operations() {
		refused(t, o.name, o.do(d), api.ErrDiskDead)
	}
	refused(t, "Append to a wrong name", d.Append("", nil), api.ErrDiskDead)
	refused(t, "Append of too much", d.Append("a", make([]byte, 200)), api.ErrDiskDead)
	refused(t, "Sync", d.Sync("x"), api.ErrDiskDead)
	refused(t, "Truncate", d.Truncate("x", -1), api.ErrDiskDead)
	refused(t, "Rename", d.Rename("x", ""), api.ErrDiskDead)
	refused(t, "Remove", d.Remove("x"), api.ErrDiskDead)
	if look(d) != before {
		t.Errorf("a dead disk changed: %+v, want %+v", look(d), before)
	}
}
