package elect_test

import (
	"slices"
	"testing"

	"dockyard/api"
	"dockyard/elect"
)

// P17.3, R5: what is given to New stays as it is, with what is behind its lists, and is not kept.
func TestNewMemory(t *testing.T) {
	voters, learners := []int{0, 2, 5, 77, 78}, []int{1, 7, 79, 80}
	x := elect.New(api.Config{Voters: voters[:3], Learners: learners[:2]})
	x.Count(0, true)
	if !slices.Equal(voters, []int{0, 2, 5, 77, 78}) || !slices.Equal(learners, []int{1, 7, 79, 80}) {
		t.Errorf("what was given to New became %v and %v", voters, learners)
	}
	copy(voters, []int{0, 0, 0, 0, 0})
	copy(learners, []int{2, 5, 2, 5})
	stands(t, "one of three", x, false, false)
	x.Count(5, true)
	stands(t, "two of three", x, true, false)
}

// P17.3, R6: a tally hangs on its own answers alone, and is not changed by being asked.
func TestTalliesApart(t *testing.T) {
	c := of(0, 1, 2)
	x, y, z := elect.New(c), elect.New(c), elect.New(c)
	for n := range 2 {
		x.Count(n, true)
		y.Count(n, false)
		for range 3 {
			stands(t, "the first tally", x, n == 1, false)
			stands(t, "the second tally", y, false, n == 1)
			stands(t, "the third tally", z, false, false)
		}
	}
	stands(t, "a tally made later", elect.New(c), false, false)
}
