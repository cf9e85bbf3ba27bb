package elect_test

import (
	"bytes"
	"encoding/binary"
	"math"
	"math/rand/v2"
	"testing"

	"dockyard/api"
	"dockyard/elect"
)

// P17.1, P17.2: the examples of the document.
func TestExamples(t *testing.T) {
	if !elect.Newer(3, 2, 9, 1) || elect.Newer(3, 2, 4, 2) {
		t.Error("Newer is not as in the examples")
	}
	if got := elect.Timeout(25); got != 15 {
		t.Errorf("Timeout(25) answers %d, want 15", got)
	}
	asked(t, api.Vote{Term: 3, For: -1}, 3, 1, true, api.Vote{Term: 3, For: 1}, true)
	asked(t, api.Vote{Term: 3, For: 2}, 3, 1, true, api.Vote{Term: 3, For: 2}, false)
	asked(t, api.Vote{Term: 3, For: 2}, 4, 1, false, api.Vote{Term: 4, For: -1}, false)
}

// P17.1: the term and the index are each lower, equal or greater.
func TestNewer(t *testing.T) {
	for _, k := range []struct {
		index, term uint64
		want        bool
	}{
		{4, 6, false}, {5, 6, false}, {6, 6, false},
		{4, 7, false}, {5, 7, true}, {6, 7, true},
		{4, 8, true}, {5, 8, true}, {6, 8, true},
		{0, 0, false}, {0, 7, false}, {0, 8, true}, {5, 0, false}, {math.MaxUint64, 0, false}, {math.MaxUint64, 6, false},
		{math.MaxUint64, 7, true}, {0, math.MaxUint64, true}, {math.MaxUint64, math.MaxUint64, true},
	} {
		if got := elect.Newer(k.index, k.term, 5, 7); got != k.want {
			t.Errorf("Newer(%d, %d, 5, 7) answers %v", k.index, k.term, got)
		}
	}
	for _, k := range []struct {
		index, term, thanIndex, thanTerm uint64
		want                             bool
	}{
		{0, 0, 0, 0, true}, {math.MaxUint64, math.MaxUint64, math.MaxUint64, math.MaxUint64, true},
		{0, 0, 1, 0, false}, {1, 0, 0, 0, true}, {0, 1, math.MaxUint64, 0, true}, {math.MaxUint64, 0, 0, 1, false},
		{math.MaxUint64 - 1, 3, math.MaxUint64, 3, false}, {math.MaxUint64, 3, math.MaxUint64 - 1, 3, true},
		{9, math.MaxUint64 - 1, 1, math.MaxUint64, false}, {1, math.MaxUint64, 9, math.MaxUint64 - 1, true},
		{1, 1 << 63, 1, 1<<63 - 1, true}, {1, 1<<63 - 1, 1, 1 << 63, false}, {1 << 63, 1, 1<<63 - 1, 1, true},
	} {
		if got := elect.Newer(k.index, k.term, k.thanIndex, k.thanTerm); got != k.want {
			t.Errorf("Newer(%d, %d, %d, %d) answers %v", k.index, k.term, k.thanIndex, k.thanTerm, got)
		}
	}
}

// P17.1: logs are ordered as the bytes of the term with those of the index behind them.
func TestNewerOrder(t *testing.T) {
	key := func(index, term uint64) []byte {
		return binary.BigEndian.AppendUint64(binary.BigEndian.AppendUint64(nil, term), index)
	}
	for _, index := range edges() {
		for _, term := range edges() {
			for _, thanIndex := range edges() {
				for _, thanTerm := range edges() {
					want := bytes.Compare(key(index, term), key(thanIndex, thanTerm)) >= 0
					if got := elect.Newer(index, term, thanIndex, thanTerm); got != want {
						t.Fatalf("Newer(%d, %d, %d, %d) answers %v", index, term, thanIndex, thanTerm, got)
					}
				}
			}
		}
	}
}

// P17.1: every remainder, the edges, and any draws.
func TestTimeout(t *testing.T) {
	for draw, want := range map[uint64]int{
		0: 10, 1: 11, 2: 12, 3: 13, 4: 14, 5: 15, 6: 16, 7: 17, 8: 18, api.BaseTicks - 1: 19,
		api.BaseTicks: 10, 11: 11, 19: 19, 20: 10, 25: 15, 99: 19, 100: 10, 256: 16, 1 << 32: 16,
		math.MaxInt64: 17, 1 << 63: 18, 1<<63 + 2: 10, math.MaxUint64 - 6: 19, math.MaxUint64 - 5: 10, math.MaxUint64 - 1: 14, math.MaxUint64: 15,
	} {
		if got := elect.Timeout(draw); got != want {
			t.Errorf("Timeout(%d) answers %d, want %d", draw, got, want)
		}
	}
	r := rand.New(rand.NewPCG(17, 1))
	for range 10000 {
		draw := r.Uint64()
		got := elect.Timeout(draw)
		if got < 10 || got > 19 || (draw-uint64(got-10))%10 != 0 {
			t.Fatalf("Timeout(%d) answers %d", draw, got)
		}
	}
}
