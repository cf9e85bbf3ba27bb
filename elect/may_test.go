package elect_test

import (
	"math"
	"testing"

	"dockyard/api"
	"dockyard/elect"
)

// An ask is a request for a vote, and the state of who is asked when it comes.
type ask struct {
	term  uint64
	from  int
	newer bool
	want  api.Vote
	is    bool
}

// P17.2: in the voter's own term, in one above and in one below; with the vote free, given to who asks and to another one; with logs that are up to date and that are not.
func TestMay(t *testing.T) {
	for v, l := range map[api.Vote][]ask{
		{Term: 5, For: -1}: {
			{4, 1, true, api.Vote{Term: 5, For: -1}, false},
			{4, 1, false, api.Vote{Term: 5, For: -1}, false},
			{5, 1, true, api.Vote{Term: 5, For: 1}, true},
			{5, 1, false, api.Vote{Term: 5, For: -1}, false},
			{6, 1, true, api.Vote{Term: 6, For: 1}, true},
			{6, 1, false, api.Vote{Term: 6, For: -1}, false},
		},
		{Term: 5, For: 1}: {
			{4, 1, true, api.Vote{Term: 5, For: 1}, false},
			{4, 1, false, api.Vote{Term: 5, For: 1}, false},
			{5, 1, true, api.Vote{Term: 5, For: 1}, true},
			{5, 1, false, api.Vote{Term: 5, For: 1}, false},
			{6, 1, true, api.Vote{Term: 6, For: 1}, true},
			{6, 1, false, api.Vote{Term: 6, For: -1}, false},
		},
		{Term: 5, For: 2}: {
			{4, 1, true, api.Vote{Term: 5, For: 2}, false},
			{4, 1, false, api.Vote{Term: 5, For: 2}, false},
			{5, 1, true, api.Vote{Term: 5, For: 2}, false},
			{5, 1, false, api.Vote{Term: 5, For: 2}, false},
			{6, 1, true, api.Vote{Term: 6, For: 1}, true},
			{6, 1, false, api.Vote{Term: 6, For: -1}, false},
		},
	} {
		for _, a := range l {
			asked(t, v, a.term, a.from, a.newer, a.want, a.is)
		}
	}
}

// P17.2: the terms 0 and 2^64 - 1, and terms that are far apart.
func TestMayTerms(t *testing.T) {
	const top = math.MaxUint64
	asked(t, api.Vote{Term: 0, For: -1}, 0, 3, true, api.Vote{Term: 0, For: 3}, true)
	asked(t, api.Vote{Term: 0, For: -1}, 0, 3, false, api.Vote{Term: 0, For: -1}, false)
	asked(t, api.Vote{}, 0, 0, true, api.Vote{}, true)
	asked(t, api.Vote{}, 0, 1, true, api.Vote{}, false)
	asked(t, api.Vote{}, 1, 1, true, api.Vote{Term: 1, For: 1}, true)
	asked(t, api.Vote{}, 1, 1, false, api.Vote{Term: 1, For: -1}, false)
	asked(t, api.Vote{}, top, 1, true, api.Vote{Term: top, For: 1}, true)
	asked(t, api.Vote{}, top, 1, false, api.Vote{Term: top, For: -1}, false)
	asked(t, api.Vote{Term: top, For: -1}, top, 7, true, api.Vote{Term: top, For: 7}, true)
	asked(t, api.Vote{Term: top, For: -1}, top, 7, false, api.Vote{Term: top, For: -1}, false)
	asked(t, api.Vote{Term: top, For: 6}, top, 7, true, api.Vote{Term: top, For: 6}, false)
	asked(t, api.Vote{Term: top, For: 7}, top, 7, true, api.Vote{Term: top, For: 7}, true)
	asked(t, api.Vote{Term: top, For: 7}, top-1, 7, true, api.Vote{Term: top, For: 7}, false)
	asked(t, api.Vote{Term: top, For: -1}, 0, 7, true, api.Vote{Term: top, For: -1}, false)
	asked(t, api.Vote{Term: top - 1, For: 6}, top, 7, true, api.Vote{Term: top, For: 7}, true)
	asked(t, api.Vote{Term: 1<<63 - 1, For: 6}, 1<<63, 7, true, api.Vote{Term: 1 << 63, For: 7}, true)
	asked(t, api.Vote{Term: 1 << 63, For: 6}, 1<<63-1, 7, true, api.Vote{Term: 1 << 63, For: 6}, false)
}

// P17.2: numbers that are those of no node are taken by the same words; the vote for -1 is free.
func TestMayStrange(t *testing.T) {
	for _, n := range strange() {
		asked(t, api.Vote{Term: 3, For: -1}, 3, n, true, api.Vote{Term: 3, For: n}, true)
		asked(t, api.Vote{Term: 3, For: -1}, 3, n, false, api.Vote{Term: 3, For: -1}, false)
		asked(t, api.Vote{Term: 3, For: n}, 3, n, true, api.Vote{Term: 3, For: n}, true)
		asked(t, api.Vote{Term: 3, For: n}, 2, n, true, api.Vote{Term: 3, For: n}, false)
		asked(t, api.Vote{Term: 3, For: 1}, 3, n, true, api.Vote{Term: 3, For: 1}, false)
		asked(t, api.Vote{Term: 3, For: 1}, 4, n, true, api.Vote{Term: 4, For: n}, true)
		asked(t, api.Vote{Term: 3, For: n}, 4, 1, false, api.Vote{Term: 4, For: -1}, false)
		if n != -1 {
			asked(t, api.Vote{Term: 3, For: n}, 3, 1, true, api.Vote{Term: 3, For: n}, false)
		}
	}
}

// P17.2: each of the words by itself, for all that they speak of.
func TestMayWords(t *testing.T) {
	froms := append(nodes(0, 7), strange()...)
	for _, own := range edges() {
		for _, term := range edges() {
			for _, voted := range froms {
				for _, from := range froms {
					v := api.Vote{Term: own, For: voted}
					w := v
					switch {
					case term < own:
						asked(t, v, term, from, true, v, false)
						asked(t, v, term, from, false, v, false)
						continue
					case term > own:
						w = api.Vote{Term: term, For: -1}
					}
					asked(t, v, term, from, false, w, false)
					switch w.For {
					case -1, from:
						asked(t, v, term, from, true, api.Vote{Term: term, For: from}, true)
					default:
						asked(t, v, term, from, true, w, false)
					}
				}
			}
		}
	}
}

// P17.2: asks that come one after the other, each to the vote that the one before has left.
func TestAsksInTurn(t *testing.T) {
	v := api.Vote{Term: 1, For: -1}
	for i, a := range []ask{
		{1, 4, false, api.Vote{Term: 1, For: -1}, false}, // its log is older
		{1, 2, true, api.Vote{Term: 1, For: 2}, true},    // the vote was still free
		{1, 3, true, api.Vote{Term: 1, For: 2}, false},   // and is no more
		{1, 2, true, api.Vote{Term: 1, For: 2}, true},    // sent again
		{1, 2, false, api.Vote{Term: 1, For: 2}, false},  // the vote stays, and the answer is no
		{2, 4, false, api.Vote{Term: 2, For: -1}, false}, // a new term, without a vote
		{1, 2, true, api.Vote{Term: 2, For: -1}, false},  // the old one is over
		{2, 3, true, api.Vote{Term: 2, For: 3}, true},
		{2, 2, true, api.Vote{Term: 2, For: 3}, false},
		{9, 2, true, api.Vote{Term: 9, For: 2}, true}, // some terms were left out
		{8, 3, true, api.Vote{Term: 9, For: 2}, false},
		{9, 3, true, api.Vote{Term: 9, For: 2}, false},
		{9, 3, false, api.Vote{Term: 9, For: 2}, false},
		{math.MaxUint64, 3, false, api.Vote{Term: math.MaxUint64, For: -1}, false},
		{math.MaxUint64, 0, true, api.Vote{Term: math.MaxUint64, For: 0}, true},
		{math.MaxUint64, 3, true, api.Vote{Term: math.MaxUint64, For: 0}, false},
		{0, 0, true, api.Vote{Term: math.MaxUint64, For: 0}, false},
	} {
		got, is := elect.May(v, a.term, a.from, a.newer)
		if got != a.want || is != a.is {
			t.Fatalf("ask %d: %v, %v, want %v, %v", i, got, is, a.want, a.is)
		}
		v = got
	}
}
