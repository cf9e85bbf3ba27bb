package stale_test

import (
	"math"
	"math/rand/v2"
	"slices"
	"strings"
	"testing"

	"dockyard/api"
	"dockyard/stale"
)

// P8.1: keys that were worked out from the rule, apart from this program.
func TestKey(t *testing.T) {
	for _, c := range []struct {
		command string
		needs   []uint64
		want    uint64
	}{
		{"", nil, 12161962213042174405},
		{"", []uint64{}, 12161962213042174405},
		{"cc hull", nil, 320704026654565417},
		{"", []uint64{0}, 9808874869469701221},
		{"a", []uint64{1, 2}, 5804285565257688112},
		{"\xff\x00\xc3", []uint64{math.MaxUint64}, 138867554390895248},
		{strings.Repeat("x", api.MaxText), []uint64{0x0102030405060708}, 4471286279585128932},
	} {
		if got := stale.Key(c.command, c.needs); got != c.want {
			t.Errorf("Key of %q, %d answers %d, want %d", c.command, c.needs, got, c.want)
		}
	}
}

// P8.1: every byte of a command and every byte of a need counts by itself, whatever rune it would be a part of.
func TestKeyBytes(t *testing.T) {
	for b := range 256 {
		for _, command := range []string{string([]byte{byte(b)}), string([]byte{'a', byte(b), 'z'}), "\u20ac" + string([]byte{byte(b)})} {
			if got, want := stale.Key(command, nil), hashed(command); got != want {
				t.Errorf("Key of %q answers %d, want %d", command, got, want)
			}
		}
		for at := range 8 {
			need := uint64(b) << (8 * at)
			if got, want := stale.Key("cc", []uint64{need, need}), hashed("cc", need, need); got != want {
				t.Errorf("Key of the need %d answers %d, want %d", need, got, want)
			}
		}
	}
}

// P8.1: Key has no limits of its own, and all bytes of the length count.
func TestKeyLong(t *testing.T) {
	for _, n := range []int{255, 256, 257, api.MaxText + 1, 65535, 65536, 1 << 20} {
		command, needs := strings.Repeat("\x80", n), make([]uint64, n)
		if got, want := stale.Key(command, needs[:api.MaxNeeds+1]), hashed(command, needs[:api.MaxNeeds+1]...); got != want {
			t.Errorf("Key of %d bytes answers %d, want %d", n, got, want)
		}
		if got, want := stale.Key("cc", needs), hashed("cc", needs...); got != want {
			t.Errorf("Key of %d needs answers %d, want %d", n, got, want)
		}
	}
}

// P8.1: commands and needs by chance.
func TestKeyRandom(t *testing.T) {
	r := rand.New(rand.NewPCG(8, 1))
	for range 5000 {
		command, needs := make([]byte, r.IntN(40)), make([]uint64, r.IntN(5))
		for i := range command {
			command[i] = byte(r.Uint32())
		}
		for i := range needs {
			needs[i] = r.Uint64() >> r.IntN(64)
		}
		if got, want := stale.Key(string(command), needs), hashed(string(command), needs...); got != want {
			t.Fatalf("Key of %q, %d answers %d, want %d", command, needs, got, want)
		}
	}
}

// P8.1: what is hashed in another order, or divided otherwise between command and needs, has another key.
func TestKeyUnlike(t *testing.T) {
	keys := []uint64{
		stale.Key("", nil), stale.Key("", []uint64{0}), stale.Key("", []uint64{0, 0}), stale.Key("\x00\x00\x00\x00\x00\x00\x00\x00", nil), stale.Key("\x00\x00\x00\x00\x00\x00\x00\x00", []uint64{0}),
		stale.Key("ab", nil), stale.Key("ba", nil), stale.Key("a", nil), stale.Key("a", []uint64{1}), stale.Key("a", []uint64{1, 2}), stale.Key("a", []uint64{2, 1}), stale.Key("a", []uint64{1, 1}), stale.Key("a", []uint64{1 << 56}),
	}
	slices.Sort(keys)
	if n := len(slices.Compact(slices.Clone(keys))); n != len(keys) {
		t.Errorf("of %d keys, only %d are unlike", len(keys), n)
	}
}

// R5, R6: the needs stay as they are, with what is behind their end, which does not count; and the key is the same each time.
func TestKeyArgumentsStay(t *testing.T) {
	all := []uint64{5, 6, 7, 8}
	for range 3 {
		if got, want := stale.Key("cc", all[:2]), hashed("cc", 5, 6); got != want {
			t.Errorf("Key answers %d, want %d", got, want)
		}
		if !slices.Equal(all, []uint64{5, 6, 7, 8}) {
			t.Fatalf("the needs are %d", all)
		}
	}
}
