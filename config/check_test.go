package config_test

import (
	"math/rand/v2"
	"slices"
	"testing"

	"dockyard/api"
	"dockyard/config"
)

// P14.1 to P14.4: the examples of the chapter.
func TestExamples(t *testing.T) {
	for _, c := range []api.Config{{}, of(1, 0), with([]int{0}, 0)} {
		if e := config.Check(c); e != api.ErrConfigForm {
			t.Errorf("Check of %v answers %d", c, e)
		}
	}
	four := of(0, 1, 2, 3)
	if config.Majority(four, []int{0, 1}) || !config.Majority(four, []int{0, 1, 3}) {
		t.Error("Majority of four voters answers true for 0 and 1, or false for 0, 1 and 3")
	}
	if c, e := config.Apply(of(0), api.Change{Kind: api.Remove, Node: 0}); e != api.ErrConfigChange || !zero(c) {
		t.Errorf("the removal of the only voter answers %v, %d", c, e)
	}
	if c, e := config.Apply(of(0), api.Change{Kind: api.AddLearner, Node: 2}); e != api.OK || !same(c, with([]int{0}, 2)) {
		t.Errorf("AddLearner answers %v, %d", c, e)
	}
	if c, e := config.Apply(with([]int{0}, 2), api.Change{Kind: api.Promote, Node: 2}); e != api.OK || !same(c, of(0, 2)) {
		t.Errorf("Promote answers %v, %d", c, e)
	}
	if b := encoded(t, with([]int{0, 2}, 1)); !slices.Equal(b, []byte{2, 0, 2, 1, 1}) {
		t.Errorf("Encode answers % x", b)
	}
}

// P14.1: the edges of what is valid; a nil list and an empty one are the same.
func TestCheckEdges(t *testing.T) {
	for _, c := range []api.Config{
		of(0), of(7), of(0, 7), of(nodes(0, 7)...), of(nodes(1, 7)...), of(nodes(0, 6)...), of(2, 3, 5),
		with([]int{0}, 7), with([]int{7}, 0), with([]int{3}, 0, 1, 2, 4, 5, 6, 7), with(nodes(0, 6), 7), with(nodes(1, 7), 0), with([]int{0, 2, 4, 6}, 1, 3, 5, 7),
		{Voters: []int{0}, Learners: []int{}}, {Voters: []int{5}, Learners: nil},
	} {
		if e := config.Check(c); e != api.OK {
			t.Errorf("Check of %v answers %d, want OK", c, e)
		}
	}
	for _, c := range wrong() {
		if e := config.Check(c); e != api.ErrConfigForm {
			t.Errorf("Check of %v answers %d, want ErrConfigForm", c, e)
		}
	}
}

// lists answers all lists of up to three numbers from -1 to 8.
func lists() [][]int {
	l := [][]int{nil}
	for at := 0; at < len(l); at++ {
		if len(l[at]) == 3 {
			continue
		}
		for n := -1; n <= 8; n++ {
			l = append(l, append(slices.Clone(l[at]), n))
		}
	}
	return l
}

// rises answers what the document asks of each of the lists.
func rises(l []int) bool {
	for i, n := range l {
		if n < 0 || n > 7 || i > 0 && n <= l[i-1] {
			return false
		}
	}
	return true
}

// meets answers whether a number is in both lists.
func meets(a, b []int) bool {
	for _, n := range a {
		for _, m := range b {
			if n == m {
				return true
			}
		}
	}
	return false
}

// P14.1: each two short lists.
func TestCheckShortLists(t *testing.T) {
	all := lists()
	if len(all) != 1111 {
		t.Fatalf("there are %d lists", len(all))
	}
	for _, voters := range all {
		for _, learners := range all {
			want := api.OK
			if len(voters) == 0 || !rises(voters) || !rises(learners) || meets(voters, learners) {
				want = api.ErrConfigForm
			}
			c := api.Config{Voters: voters, Learners: learners}
			if e := config.Check(c); e != want {
				t.Fatalf("Check of %v answers %d, want %d", c, e, want)
			}
		}
	}
}

// P14.1, P14.2: all that are valid; who is in them, and who votes.
func TestCheckValid(t *testing.T) {
	for _, x := range castings() {
		c := x.config()
		if e := config.Check(c); e != api.OK {
			t.Fatalf("Check of %v answers %d", c, e)
		}
		var all []int
		for n, letter := range x {
			if config.Votes(c, n) != (letter == 'v') || config.Has(c, n) != (letter != '-') {
				t.Fatalf("of %v, %d votes: %v; is in it: %v", c, n, config.Votes(c, n), config.Has(c, n))
			}
			if letter != '-' {
				all = append(all, n)
			}
		}
		for _, n := range strange() {
			if config.Votes(c, n) || config.Has(c, n) {
				t.Fatalf("%d is in %v", n, c)
			}
		}
		if got := config.All(c); !slices.Equal(got, all) {
			t.Fatalf("All of %v answers %v, want %v", c, got, all)
		}
	}
}

// P14.2: the words hold for configurations that are not valid, too: what is in the lists counts.
func TestNotValid(t *testing.T) {
	for _, c := range wrong() {
		for _, n := range append(strange(), nodes(-1, 8)...) {
			votes, learns := slices.Index(c.Voters, n) >= 0, slices.Index(c.Learners, n) >= 0
			if config.Votes(c, n) != votes || config.Has(c, n) != (votes || learns) {
				t.Errorf("of %v, %d votes: %v; is in it: %v", c, n, config.Votes(c, n), config.Has(c, n))
			}
		}
	}
	for _, k := range []struct {
		c    api.Config
		want []int
	}{
		{api.Config{}, nil},
		{with(nil, 2, 1), []int{1, 2}},
		{of(3, 1, 2), []int{1, 2, 3}},
		{of(0, 0, 0), []int{0}},
		{with([]int{5, 0, 5}, 5, 5, 0), []int{0, 5}},
		{with([]int{9, -1}, 9, 300), []int{-1, 9, 300}},
		{of(nodes(-3, 20)...), nodes(-3, 20)},
	} {
		if got := config.All(k.c); !slices.Equal(got, k.want) {
			t.Errorf("All of %v answers %v, want %v", k.c, got, k.want)
		}
	}
}

// P14.2: just half of the voters, and one more, of each number of them.
func TestMajorityEdges(t *testing.T) {
	for many := 1; many <= 8; many++ {
		c := with(nodes(0, many-1), nodes(many, 7)...)
		if config.Majority(c, nodes(0, many/2-1)) {
			t.Errorf("%d of %d are a majority", many/2, many)
		}
		if !config.Majority(c, nodes(0, many/2)) || !config.Majority(c, nodes(many-many/2-1, many-1)) {
			t.Errorf("%d of %d are no majority", many/2+1, many)
		}
		if config.Majority(c, nil) || config.Majority(c, []int{}) || config.Majority(c, c.Learners) || config.Majority(c, strange()) {
			t.Errorf("of %d, others are a majority", many)
		}
		if !config.Majority(c, nodes(0, 7)) || !config.Majority(c, nodes(-5, 300)) {
			t.Errorf("all of %d are no majority", many)
		}
		twice := slices.Repeat(nodes(0, many/2-1), 9)
		if config.Majority(c, twice) || config.Majority(c, append(twice, c.Learners...)) || !config.Majority(c, append(twice, many-1)) {
			t.Errorf("of %d, nodes that stand there twice are counted twice", many)
		}
	}
}

// P14.2: each set of voters, with each set of nodes, in any order and some of them twice.
func TestMajority(t *testing.T) {
	r := rand.New(rand.NewPCG(14, 2))
	for voters := range 256 {
		c := with(members(voters), members(255-voters)...)
		for some := range 256 {
			l := members(some)
			l = append(l, l[:r.IntN(len(l)+1)]...)
			r.Shuffle(len(l), func(i, j int) { l[i], l[j] = l[j], l[i] })
			want := len(members(voters&some)) > len(members(voters&^some))
			if got := config.Majority(c, l); got != want {
				t.Fatalf("Majority of %v answers %v for %v, want %v", c, got, l, want)
			}
		}
	}
}

// P14.2: elements of Voters are counted, also where the configuration is not valid.
func TestMajorityNotValid(t *testing.T) {
	for _, k := range []struct {
		c     api.Config
		nodes []int
		want  bool
	}{
		{api.Config{}, nil, false}, {api.Config{}, []int{0}, false}, {with(nil, 0, 1), []int{0, 1}, false},
		{of(0, 0, 1), []int{0}, true}, {of(0, 0, 1, 1), []int{0}, false}, {of(0, 0, 1), []int{1}, false}, {of(1, 0), []int{0, 1}, true},
		{of(-1), []int{-1}, true}, {of(9, 300), []int{300, 300}, false}, {of(9, 300), []int{300, 9}, true},
		{of(nodes(0, 8)...), nodes(0, 4), true}, {of(nodes(0, 8)...), nodes(0, 3), false}, {with([]int{0, 1}, 0, 1), []int{0}, false},
	} {
		if got := config.Majority(k.c, k.nodes); got != k.want {
			t.Errorf("Majority of %v answers %v for %v", k.c, got, k.nodes)
		}
	}
}

// P14.1, P14.2, R5: what is given stays as it is, and what All answers is new.
func TestAskingMemory(t *testing.T) {
	for _, was := range append(wrong(), with([]int{0, 2, 7}, 1, 5), of(3), of(nodes(0, 7)...)) {
		c, some := deep(was), deep(of(5, 2, 2, 0))
		config.Check(c)
		config.Has(c, 5)
		config.Majority(c, some.Voters)
		first, want := config.All(c), config.All(was)
		second := config.All(c)
		spoil(first)
		unchanged(t, "a question", c, was)
		unchanged(t, "Majority", some, of(5, 2, 2, 0))
		if !slices.Equal(second, want) || !slices.Equal(config.All(c), want) {
			t.Errorf("All of %v answers %v, then %v", was, second, config.All(c))
		}
		spoil(c.Voters)
		spoil(c.Learners)
		if !slices.Equal(second, want) {
			t.Errorf("what All of %v has answered became %v", was, second)
		}
	}
}
