package disk_test

import (
	"math"
	"testing"

	"dockyard/api"
	"dockyard/disk"
)

// P2.3: Read tells durable bytes and others, and no file apart from an empty one.
func TestRead(t *testing.T) {
	d := three(t)
	holds(t, d, "all", "abc")
	holds(t, d, "half", "defgh")
	holds(t, d, "none", "ij")
	must(t, d.Truncate("all", 0))
	holds(t, d, "all", "")
	lacks(t, d, "x")
	lacks(t, d, "")
	lacks(t, d, "al")
}

// P2.3: by bytes, a prefix ahead of the longer name; the order of creation does not matter.
func TestNames(t *testing.T) {
	d := disk.New(0)
	for _, name := range []string{"b", "ab", "~", "a", "B", "10", "9", "!", "aa", "a!"} {
		must(t, d.Append(name, nil))
	}
	for range 20 {
		sameNames(t, d, "!", "10", "9", "B", "a", "a!", "aa", "ab", "b", "~")
	}
	names := d.Names()
	names[0] = "changed"
	sameNames(t, d, "!", "10", "9", "B", "a", "a!", "aa", "ab", "b", "~")
}

// P2.3: Free counts the bytes of all files, durable or not.
func TestFree(t *testing.T) {
	d := three(t)
	if d.Free() != 90 {
		t.Errorf("Free = %d, want 90", d.Free())
	}
	must(t, d.Truncate("half", 1), d.Rename("half", "none"))
	if d.Free() != 96 {
		t.Errorf("Free = %d, want 96", d.Free())
	}
}

// P2.3: Steps counts what was done, not what was refused.
func TestSteps(t *testing.T) {
	d := disk.New(3)
	for i, o := range []func() api.Errno{
		func() api.Errno { return d.Append("a", []byte("12")) },
		func() api.Errno { return d.Sync("a") },
		func() api.Errno { return d.Truncate("a", 2) },
		func() api.Errno { return d.Rename("a", "b") },
		func() api.Errno { return d.Remove("b") },
	} {
		must(t, o())
		if d.Steps() != i+1 {
			t.Errorf("Steps = %d, want %d", d.Steps(), i+1)
		}
		d.Sync("x")
		d.Append("", nil)
		d.Append("a", []byte("1234"))
		d.Flip("a", 0, 0)
		d.Names()
		if d.Steps() != i+1 {
			t.Errorf("Steps = %d behind refusals, want %d", d.Steps(), i+1)
		}
	}
}

// P2.4: exactly so many steps happen before the one that fails.
func TestArm(t *testing.T) {
	for _, at := range []int{0, 1, 2, 7} {
		d := three(t)
		steps := d.Steps()
		d.Arm(at)
		for i := range at {
			if e := d.Append("all", nil); e != api.OK || d.Dead() {
				t.Errorf("Arm(%d): step %d answers %d", at, i, e)
			}
			// A refusal does not bring the failure nearer.
			d.Sync("x")
		}
		refused(t, "the armed step", d.Append("all", nil), api.ErrDiskDead)
		if !d.Dead() || d.Steps() != steps+at+1 {
			t.Errorf("Arm(%d): %+v", at, look(d))
		}
	}
}

// P2.4: a later Arm replaces an earlier one; a negative one takes it back.
func TestArmAgain(t *testing.T) {
	d := disk.New(10)
	d.Arm(0)
	d.Arm(2)
	must(t, d.Append("a", nil), d.Append("a", nil))
	d.Arm(1)
	must(t, d.Append("a", nil))
	for _, at := range []int{-1, -2, math.MinInt, math.MaxInt} {
		d.Arm(0)
		d.Arm(at)
		for range 5 {
			must(t, d.Append("a", nil))
		}
	}
	d.Arm(0)
	refused(t, "the armed step", d.Append("a", nil), api.ErrDiskDead)
}

// P2.4: a dead disk stays dead, however it is armed.
func TestArmDead(t *testing.T) {
	for _, at := range []int{-1, 0, 1, 5, math.MaxInt} {
		d := disk.New(10)
		d.Arm(0)
		d.Append("a", nil)
		d.Arm(at)
		if e := d.Append("a", nil); e != api.ErrDiskDead || !d.Dead() || d.Steps() != 1 {
			t.Errorf("Arm(%d) of a dead disk: Append answers %d, %+v", at, e, look(d))
		}
		if x := d.Crash(nil); x.Append("a", nil) != api.OK || x.Append("a", nil) != api.OK {
			t.Errorf("Arm(%d) of a dead disk arms the one that is found", at)
		}
	}
}

// P2.6: one bit of one byte, in durable bytes and others.
func TestFlip(t *testing.T) {
	for at := range 5 {
		for bit := range 8 {
			d := three(t)
			want := []byte("defgh")
			want[at] ^= byte(1 << bit)
			steps := d.Steps()
			if !d.Flip("half", at, bit) || d.Steps() != steps {
				t.Errorf("Flip(%d, %d) is refused, or a step", at, bit)
			}
			holds(t, d, "half", string(want))
			holds(t, d.Crash(nil), "half", string(want[:2]))
			holds(t, d, "all", "abc")
			d.Flip("half", at, bit)
			holds(t, d, "half", "defgh")
		}
	}
}

// P2.6: a byte, a bit or a file that is not there.
func TestFlipRefused(t *testing.T) {
	d := three(t)
	must(t, d.Append("empty", nil))
	before := look(d)
	for _, c := range []struct {
		name    string
		at, bit int
	}{
		{"x", 0, 0}, {"", 0, 0}, {"empty", 0, 0}, {"all", 3, 0}, {"all", -1, 0}, {"all", 0, -1}, {"all", 0, 8},
		{"all", math.MaxInt, 0}, {"all", math.MinInt, 0}, {"all", 0, math.MaxInt}, {"all", 0, math.MinInt},
	} {
		if d.Flip(c.name, c.at, c.bit) {
			t.Errorf("Flip(%q, %d, %d) is true", c.name, c.at, c.bit)
		}
	}
	if look(d) != before {
		t.Errorf("a refused Flip changed the disk: %+v", look(d))
	}
}

// P2.6: Wipe takes all files, and nothing else.
func TestWipe(t *testing.T) {
	d := three(t)
	d.Arm(1)
	d.Wipe()
	if got, want := look(d), (sight{free: 100, steps: 6}); got != want {
		t.Errorf("%+v, want %+v", got, want)
	}
	must(t, d.Append("all", []byte("z")))
	holds(t, d.Crash(nil), "all", "")
	refused(t, "the armed step", d.Sync("all"), api.ErrDiskDead)
	disk.New(0).Wipe()
}

// P2.3, P2.6: what works on a dead disk.
func TestDeadDisk(t *testing.T) {
	d := three(t)
	d.Arm(0)
	d.Sync("none")
	holds(t, d, "half", "defgh")
	sameNames(t, d, "all", "half", "none")
	if d.Free() != 90 || d.Steps() != 7 || !d.Dead() {
		t.Errorf("%+v", look(d))
	}
	if !d.Flip("half", 0, 0) {
		t.Error("Flip is refused")
	}
	holds(t, d, "half", "eefgh")
	holds(t, d.Crash([]int{0, 1}), "half", "eef")
	d.Wipe()
	if len(d.Names()) != 0 || d.Free() != 100 || d.Steps() != 7 || !d.Dead() {
		t.Errorf("Wipe: %+v", look(d))
	}
	refused(t, "Append", d.Append("a", nil), api.ErrDiskDead)
}

// P2.6, R7: a clone goes its own way.
func TestClone(t *testing.T) {
	d := three(t)
	c := d.Clone()
	before := look(d)
	if look(c) != before {
		t.Errorf("the clone is %+v, want %+v", look(c), before)
	}
	changeAll(c)
	if look(d) != before {
		t.Errorf("the clone's changes are seen: %+v", look(d))
	}
	c = d.Clone()
	changeAll(d)
	if look(c) != before {
		t.Errorf("the disk's changes are seen in the clone: %+v", look(c))
	}
}

func changeAll(d *disk.Disk) {
	d.Append("half", []byte("zzz"))
	d.Append("new", []byte("zzz"))
	d.Sync("none")
	d.Flip("half", 0, 0)
	d.Truncate("half", 1)
	d.Append("half", []byte("zz"))
	d.Remove("all")
	d.Arm(0)
	d.Sync("none")
	d.Wipe()
}

// P2.6: dead and armed like the disk.
func TestCloneArmed(t *testing.T) {
	d := three(t)
	d.Arm(2)
	must(t, d.Sync("half"))
	c := d.Clone()
	for _, x := range []*disk.Disk{c, d} {
		must(t, x.Sync("half"))
		refused(t, "the armed step", x.Sync("half"), api.ErrDiskDead)
	}
	dead := d.Clone()
	if !dead.Dead() || dead.Steps() != 9 || dead.Sync("half") != api.ErrDiskDead {
		t.Errorf("the clone of a dead disk: %+v", look(dead))
	}
}

// R5: neither what is given nor what is answered is the disk's own memory.
func TestMemory(t *testing.T) {
	d := disk.New(100)
	given := make([]byte, 3, 16)
	copy(given, "abc")
	must(t, d.Append("a", given))
	fill(given)
	must(t, d.Append("a", []byte("d")))
	holds(t, d, "a", "abcd")
	if string(given) != "\xee\xee\xee" || given[:4][3] != 0xee {
		t.Errorf("the argument was changed: %q", given[:4])
	}
	first, _ := d.Read("a")
	second, _ := d.Read("a")
	fill(first)
	must(t, d.Append("a", []byte("e")))
	if string(second) != "abcd" {
		t.Errorf("an earlier result is now %q", second)
	}
	holds(t, d, "a", "abcde")
}
