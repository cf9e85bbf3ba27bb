package disk_test

import (
	"math"
	"math/rand/v2"
	"slices"
	"strings"
	"testing"

	"dockyard/api"
	"dockyard/disk"
)

// P2.5: an element for each file, by the order of the names.
func TestCrash(t *testing.T) {
	for _, c := range []struct {
		keep []int
		want string
	}{
		{nil, "all=abc;half=de;none=;"},
		{[]int{}, "all=abc;half=de;none=;"},
		{[]int{9}, "all=abc;half=de;none=;"},
		{[]int{0, 1}, "all=abc;half=def;none=;"},
		{[]int{0, 3, 1}, "all=abc;half=defgh;none=i;"},
		{[]int{1, 2, 2}, "all=abc;half=defg;none=ij;"},
		{[]int{-1, -1, 9}, "all=abc;half=de;none=ij;"},
		{[]int{math.MaxInt, math.MaxInt, math.MaxInt}, "all=abc;half=defgh;none=ij;"},
		{[]int{math.MinInt, math.MinInt, math.MinInt}, "all=abc;half=de;none=;"},
		{[]int{0, 0, 0, 9, 9}, "all=abc;half=de;none=;"},
	} {
		d := three(t)
		before := look(d)
		x := d.Crash(c.keep)
		if got := contents(x); got != c.want {
			t.Errorf("Crash(%v) has %s, want %s", c.keep, got, c.want)
		}
		if got := contents(x.Crash(nil)); got != c.want {
			t.Errorf("Crash(%v), and again: %s, want %s: what is left is durable", c.keep, got, c.want)
		}
		if look(d) != before {
			t.Errorf("Crash(%v) changed the disk: %+v", c.keep, look(d))
		}
	}
}

// P2.5: what is found has the same room, and is neither dead nor armed.
func TestCrashAnew(t *testing.T) {
	d := disk.New(12)
	must(t, d.Append("a", []byte("123")), d.Sync("a"), d.Append("a", []byte("45")), d.Append("e", nil))
	d.Arm(0)
	armed := d.Crash([]int{1})
	d.Sync("a")
	for _, x := range []*disk.Disk{armed, d.Crash([]int{1})} {
		if got, want := look(x), (sight{names: "a e", files: "a=1234;e=;", synced: "a=1234;e=;", free: 8}); got != want {
			t.Errorf("%+v, want %+v", got, want)
		}
		must(t, x.Append("a", []byte("12345678")), x.Sync("a"), x.Truncate("a", 1))
		if x.Steps() != 3 {
			t.Errorf("Steps = %d, want 3", x.Steps())
		}
	}
	if !d.Dead() || d.Steps() != 5 {
		t.Errorf("Crash changed the disk: %+v", look(d))
	}
	if x := disk.New(-3).Crash([]int{1, 2}); look(x) != (sight{}) {
		t.Errorf("a disk without files: %+v", look(x))
	}
}

// P2.5, R7: the disk and what was found on it do not share anything, nor is keep changed.
func TestCrashApart(t *testing.T) {
	d := three(t)
	keep := []int{-5, 2, 99}
	x := d.Crash(keep)
	before, found := look(d), look(x)
	changeAll(x)
	if look(d) != before {
		t.Errorf("changes of what was found are seen: %+v", look(d))
	}
	x = d.Crash(keep)
	changeAll(d)
	if look(x) != found {
		t.Errorf("changes of the disk are seen: %+v", look(x))
	}
	if !slices.Equal(keep, []int{-5, 2, 99}) {
		t.Errorf("keep is now %v", keep)
	}
}

// A book is what a test knows of a disk: the bytes of each file, and how many were synced.
type book struct {
	bytes  map[string]string
	synced map[string]int
}

func newBook() book { return book{map[string]string{}, map[string]int{}} }

// An act is one random operation.
type act struct {
	kind     int
	name, to string
	b        string
	n        int
}

func randomAct(r *rand.Rand) act {
	names := []string{"a", "b", "c", "d"}
	return act{
		kind: r.IntN(6),
		name: names[r.IntN(len(names))],
		to:   names[r.IntN(len(names))],
		b:    strings.Repeat(string(rune('a'+r.IntN(26))), r.IntN(6)),
		n:    r.IntN(12) - 1,
	}
}

func (a act) do(d *disk.Disk) api.Errno {
	switch a.kind {
	case 0, 1:
		return d.Append(a.name, []byte(a.b))
	case 2:
		return d.Sync(a.name)
	case 3:
		return d.Truncate(a.name, a.n)
	case 4:
		return d.Rename(a.name, a.to)
	default:
		return d.Remove(a.name)
	}
}

// note writes into the book what the operation has done.
func (k book) note(a act) {
	switch a.kind {
	case 0, 1:
		k.bytes[a.name] += a.b
	case 2:
		k.synced[a.name] = len(k.bytes[a.name])
	case 3:
		k.bytes[a.name] = k.bytes[a.name][:a.n]
		k.synced[a.name] = min(k.synced[a.name], a.n)
	case 4:
		b, s := k.bytes[a.name], k.synced[a.name]
		delete(k.bytes, a.name)
		delete(k.synced, a.name)
		k.bytes[a.to], k.synced[a.to] = b, s
	default:
		delete(k.bytes, a.name)
		delete(k.synced, a.name)
	}
}

func randomKeep(r *rand.Rand) []int {
	keep := make([]int, r.IntN(6))
	for i := range keep {
		keep[i] = r.IntN(10) - 2
	}
	return keep
}

// P2.7: after every operation and every crash, what was synced is there, and what is there is a prefix of what was read.
func TestSyncedIsFound(t *testing.T) {
	r := rand.New(rand.NewPCG(2, 7))
	for range 200 {
		d, k := disk.New(40), newBook()
		for range 60 {
			a := randomAct(r)
			if a.do(d) == api.OK {
				k.note(a)
			}
			x := d.Crash(randomKeep(r))
			if len(d.Names()) != len(k.bytes) || !slices.Equal(d.Names(), x.Names()) {
				t.Fatalf("files %q, found %q, want those of %q", d.Names(), x.Names(), k.bytes)
			}
			for name, all := range k.bytes {
				holds(t, d, name, all)
				left, _ := x.Read(name)
				if !strings.HasPrefix(all, string(left)) || len(left) < k.synced[name] {
					t.Fatalf("%s: %q is found of %q, of which %d bytes were synced", name, left, all, k.synced[name])
				}
			}
		}
	}
}

// P2.8: up to the step at which it fails, an armed disk answers and holds what one that is not armed does.
func TestArmedBehavesAlike(t *testing.T) {
	r := rand.New(rand.NewPCG(2, 8))
	for range 300 {
		plain, armed := disk.New(25), disk.New(25)
		at := r.IntN(30)
		armed.Arm(at)
		for !armed.Dead() {
			a := randomAct(r)
			before := look(armed)
			want, got := a.do(plain), a.do(armed)
			if armed.Dead() {
				if want != api.OK || got != api.ErrDiskDead || before.steps != at {
					t.Fatalf("armed for %d, dead at step %d, where the other answers %d", at, before.steps, want)
				}
				break
			}
			if got != want || look(armed) != look(plain) {
				t.Fatalf("%+v answers %d, want %d; %+v, want %+v", a, got, want, look(armed), look(plain))
			}
		}
	}
}

// P2.8: on a full disk an Append is done whole or not at all.
func TestNothingIsLost(t *testing.T) {
	r := rand.New(rand.NewPCG(2, 9))
	for range 200 {
		d := disk.New(r.IntN(20))
		for range 40 {
			a := randomAct(r)
			before, free := look(d), d.Free()
			e := a.do(d)
			if e != api.OK && look(d) != before {
				t.Fatalf("%+v answers %d, and the disk is %+v, was %+v", a, e, look(d), before)
			}
			if a.kind < 2 && (e == api.OK) != (len(a.b) <= free) {
				t.Fatalf("Append of %d bytes to a disk with room for %d answers %d", len(a.b), free, e)
			}
			if d.Free() < 0 {
				t.Fatalf("Free = %d", d.Free())
			}
		}
	}
}
