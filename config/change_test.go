package config_test

import (
	"math"
	"slices"
	"testing"

	"dockyard/api"
	"dockyard/config"
)

// after answers what the document asks of a change: the casting behind it, and false if it is refused.
func (x casting) after(change api.Change) (casting, bool) {
	if change.Node < 0 || change.Node > 7 {
		return x, false
	}
	letter, only := x[change.Node], x.many('v') == 1
	switch {
	case change.Kind == 1 && letter == '-':
		x[change.Node] = 'l'
	case change.Kind == 2 && letter == 'l':
		x[change.Node] = 'v'
	case change.Kind == 3 && (letter == 'l' || letter == 'v' && !only):
		x[change.Node] = '-'
	default:
		return x, false
	}
	return x, true
}

// kinds answers the kinds of changes, and numbers that are none.
func kinds() []int {
	return []int{api.AddLearner, api.Promote, api.Remove, 0, -1, -2, -3, 4, 5, 7, 256 + api.AddLearner, 1<<32 + api.Promote, math.MaxInt, math.MinInt, math.MinInt + api.Remove}
}

// P14.3: each change of each valid configuration.
func TestApply(t *testing.T) {
	done := map[int]int{}
	for _, x := range castings() {
		c := x.config()
		for _, kind := range kinds() {
			for _, node := range append(nodes(0, 7), strange()...) {
				change := api.Change{Kind: kind, Node: node}
				got, e := config.Apply(c, change)
				behind, there := x.after(change)
				switch {
				case !there && (e != api.ErrConfigChange || !zero(got)):
					t.Fatalf("%v of %v answers %v, %d, want nothing, ErrConfigChange", change, c, got, e)
				case there && (e != api.OK || !same(got, behind.config()) || config.Check(got) != api.OK):
					t.Fatalf("%v of %v answers %v, %d, want %v", change, c, got, e, behind.config())
				case there:
					done[kind]++
				}
			}
		}
	}
	// A node is in a third of all castings what a change asks it to be; those without a voter must be taken off.
	if done[1] != 8*(2187-128) || done[2] != 8*(2187-128) || len(done) != 3 {
		t.Errorf("changes were done so often: %v", done)
	}
}

// P14.3: the edges, by name.
func TestApplyEdges(t *testing.T) {
	seven, eight := nodes(0, 6), nodes(0, 7)
	for what, k := range map[string]struct {
		c      api.Config
		change api.Change
		want   api.Config
		e      api.Errno
	}{
		"a learner in front":          {with([]int{3}, 4), api.Change{Kind: 1, Node: 0}, with([]int{3}, 0, 4), 0},
		"a learner between":           {with([]int{3}, 1, 6), api.Change{Kind: 1, Node: 4}, with([]int{3}, 1, 4, 6), 0},
		"a learner behind":            {with([]int{3}, 4), api.Change{Kind: 1, Node: 7}, with([]int{3}, 4, 7), 0},
		"the eighth node":             {of(seven...), api.Change{Kind: 1, Node: 7}, with(seven, 7), 0},
		"the seventh learner":         {with([]int{0}, 1, 2, 4, 5, 6, 7), api.Change{Kind: 1, Node: 3}, with([]int{0}, nodes(1, 7)...), 0},
		"a voter that is to learn":    {of(0, 1), api.Change{Kind: 1, Node: 1}, api.Config{}, 141},
		"a learner twice":             {with([]int{0}, 1), api.Change{Kind: 1, Node: 1}, api.Config{}, 141},
		"a ninth node":                {of(eight...), api.Change{Kind: 1, Node: 8}, api.Config{}, 141},
		"a node behind the last one":  {of(0), api.Change{Kind: 1, Node: 8}, api.Config{}, 141},
		"a node ahead of the first":   {of(0), api.Change{Kind: 1, Node: -1}, api.Config{}, 141},
		"a promotion in front":        {with([]int{3, 5}, 0, 4), api.Change{Kind: 2, Node: 0}, with([]int{0, 3, 5}, 4), 0},
		"a promotion between":         {with([]int{3, 5}, 0, 4), api.Change{Kind: 2, Node: 4}, with([]int{3, 4, 5}, 0), 0},
		"a promotion behind":          {with([]int{0}, 7), api.Change{Kind: 2, Node: 7}, of(0, 7), 0},
		"the eighth voter":            {with([]int{0, 1, 2, 4, 5, 6, 7}, 3), api.Change{Kind: 2, Node: 3}, of(eight...), 0},
		"a voter that is promoted":    {with([]int{0}, 1), api.Change{Kind: 2, Node: 0}, api.Config{}, 141},
		"a promotion of nobody":       {with([]int{0}, 1), api.Change{Kind: 2, Node: 2}, api.Config{}, 141},
		"a promotion of -1":           {with([]int{0}, 1), api.Change{Kind: 2, Node: -1}, api.Config{}, 141},
		"the only voter":              {of(0), api.Change{Kind: 3, Node: 0}, api.Config{}, 141},
		"the only voter of many":      {with([]int{4}, 0, 1, 2, 3, 5, 6, 7), api.Change{Kind: 3, Node: 4}, api.Config{}, 141},
		"the last learner":            {with([]int{0}, 1), api.Change{Kind: 3, Node: 1}, of(0), 0},
		"a learner, of many":          {with([]int{4}, 0, 1, 2, 3), api.Change{Kind: 3, Node: 2}, with([]int{4}, 0, 1, 3), 0},
		"one of two voters":           {with([]int{2, 6}, 4), api.Change{Kind: 3, Node: 2}, with([]int{6}, 4), 0},
		"one of eight voters":         {of(eight...), api.Change{Kind: 3, Node: 7}, of(seven...), 0},
		"the first of eight voters":   {of(eight...), api.Change{Kind: 3, Node: 0}, of(nodes(1, 7)...), 0},
		"a removal of nobody":         {of(0, 1), api.Change{Kind: 3, Node: 2}, api.Config{}, 141},
		"a removal of 8":              {of(0, 1), api.Change{Kind: 3, Node: 8}, api.Config{}, 141},
		"the zero change":             {of(0, 1), api.Change{}, api.Config{}, 141},
		"a fourth kind":               {with([]int{0}, 1), api.Change{Kind: 4, Node: 1}, api.Config{}, 141},
		"a kind below the first":      {with([]int{0}, 1), api.Change{Kind: -1, Node: 1}, api.Config{}, 141},
		"an empty list for no list":   {api.Config{Voters: []int{0}, Learners: []int{}}, api.Change{Kind: 1, Node: 2}, with([]int{0}, 2), 0},
		"a change that leaves no one": {with([]int{0}, 2), api.Change{Kind: 2, Node: 2}, api.Config{Voters: []int{0, 2}, Learners: []int{}}, 0},
	} {
		if got, e := config.Apply(k.c, k.change); e != k.e || !same(got, k.want) {
			t.Errorf("%s: Apply answers %v, %d, want %v, %d", what, got, e, k.want, k.e)
		}
	}
}

// P14.3: that the configuration is not valid goes ahead of what is wrong with the change, and of what would make it valid.
func TestApplyNotValid(t *testing.T) {
	for _, c := range wrong() {
		for _, kind := range kinds() {
			for _, node := range append(nodes(0, 7), strange()...) {
				if got, e := config.Apply(c, api.Change{Kind: kind, Node: node}); e != api.ErrConfigForm || !zero(got) {
					t.Fatalf("{%d %d} of %v answers %v, %d, want nothing, ErrConfigForm", kind, node, c, got, e)
				}
			}
		}
	}
}

// P14.3, R5: the configuration stays as it is, be the change done or refused, and what is answered is new memory.
func TestApplyMemory(t *testing.T) {
	for _, was := range []api.Config{with([]int{0, 3, 5}, 1, 4, 7), with([]int{0}, nodes(1, 7)...), of(nodes(0, 7)...), of(2, 4)} {
		for _, kind := range kinds() {
			for _, node := range nodes(-1, 8) {
				c, change := deep(was), api.Change{Kind: kind, Node: node}
				separate(t, "Apply", func() api.Config { got, _ := config.Apply(c, change); return got })
				unchanged(t, "Apply", c, was)
				got, _ := config.Apply(c, change)
				want := deep(got)
				spoil(c.Voters)
				spoil(c.Learners)
				if !same(got, want) {
					t.Errorf("what Apply has answered became %v, and was %v", got, want)
				}
			}
		}
	}
}

// P14.3: a way through configurations of all sizes: from one voter to eight, and to another one.
func TestApplyInTurn(t *testing.T) {
	c := of(3)
	do := func(kind, node int) {
		t.Helper()
		next, e := config.Apply(c, api.Change{Kind: kind, Node: node})
		if e != api.OK || config.Check(next) != api.OK {
			t.Fatalf("{%d %d} of %v answers %v, %d", kind, node, c, next, e)
		}
		c = next
	}
	for _, node := range []int{7, 0, 5, 1, 2, 6, 4} {
		do(api.AddLearner, node)
		do(api.Promote, node)
	}
	if !same(c, of(nodes(0, 7)...)) {
		t.Errorf("it has become %v", c)
	}
	for _, node := range []int{3, 0, 7, 6, 2, 1, 5} {
		do(api.Remove, node)
		do(api.AddLearner, node)
	}
	if !same(c, with([]int{4}, 0, 1, 2, 3, 5, 6, 7)) || !slices.Equal(config.All(c), nodes(0, 7)) {
		t.Errorf("it has become %v", c)
	}
}
