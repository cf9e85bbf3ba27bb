package config_test

import (
	"math"
	"reflect"
	"slices"
	"testing"

	"dockyard/api"
	"dockyard/config"
)

// of answers a configuration of these voters, and none that learn.
func of(voters ...int) api.Config { return api.Config{Voters: voters} }

// with answers a configuration of these voters and learners.
func with(voters []int, learners ...int) api.Config {
	return api.Config{Voters: voters, Learners: learners}
}

// nodes answers the nodes from one to another.
func nodes(from, to int) []int {
	var l []int
	for n := from; n <= to; n++ {
		l = append(l, n)
	}
	return l
}

// members answers the nodes whose bits are set.
func members(bits int) []int {
	var l []int
	for n := range 8 {
		if bits>>n&1 == 1 {
			l = append(l, n)
		}
	}
	return l
}

// A casting has a letter for each node: v for a voter, l for a learner, and - for a node that is neither.
type casting [8]byte

func (x casting) config() api.Config {
	var c api.Config
	for n, letter := range x {
		switch letter {
		case 'v':
			c.Voters = append(c.Voters, n)
		case 'l':
			c.Learners = append(c.Learners, n)
		}
	}
	return c
}

func (x casting) many(letter byte) int {
	many := 0
	for _, l := range x {
		if l == letter {
			many++
		}
	}
	return many
}

// castings answers those of all valid configurations.
func castings() []casting {
	var l []casting
	for number := range 3 * 3 * 3 * 3 * 3 * 3 * 3 * 3 {
		var x casting
		for n := range x {
			x[n] = "-vl"[number%3]
			number /= 3
		}
		if x.many('v') > 0 {
			l = append(l, x)
		}
	}
	return l
}

// strange answers numbers that are those of no node: about the edges, and some whose lowest byte is that of one.
func strange() []int {
	return []int{-1, -2, -8, -256, 8, 9, 16, 255, 256, 257, 1 << 32, 1<<32 + 1, math.MaxInt, math.MinInt, math.MinInt + 1}
}

// wrong answers configurations that are not valid.
func wrong() []api.Config {
	l := []api.Config{
		{}, {Voters: []int{}, Learners: []int{}}, with(nil, 0), with(nil, 1, 2), with(nil, nodes(0, 7)...),
		of(1, 0), of(0, 0), of(7, 7), of(0, 2, 1), of(0, 1, 1), of(0, 1, 2, 2, 3), of(3, 4, 5, 0), of(7, 6, 5, 4, 3, 2, 1, 0),
		of(nodes(0, 8)...), of(nodes(-1, 7)...), of(append(nodes(0, 7), 7)...), of(slices.Repeat([]int{0}, 300)...),
		with([]int{0}, 2, 1), with([]int{0}, 1, 1), with([]int{0}, 1, 3, 2), with([]int{7}, 6, 5, 4, 3, 2, 1, 0), with([]int{0}, nodes(1, 8)...),
		with([]int{0}, 0), with([]int{0, 3, 7}, 7), with([]int{0, 3, 7}, 1, 2, 3), with([]int{0, 3, 7}, 0, 1), with([]int{0, 3, 7}, 0, 3, 7), with(nodes(0, 7), 5),
	}
	for _, n := range strange() {
		l = append(l, of(n), of(0, n), of(n, 1), of(0, n, 7), with([]int{0}, n), with([]int{0}, 1, n), with([]int{0}, n, 1), with([]int{n}, n), with([]int{0}, 1, n, 7))
	}
	return l
}

// same answers whether two configurations are the same: nil and empty lists are.
func same(a, b api.Config) bool {
	return slices.Equal(a.Voters, b.Voters) && slices.Equal(a.Learners, b.Learners)
}

// zero answers whether a configuration has nothing in it.
func zero(c api.Config) bool { return len(c.Voters) == 0 && len(c.Learners) == 0 }

// deep answers a copy with room behind the ends of its lists, in which something stands.
func deep(c api.Config) api.Config {
	more := func(l []int) []int { return append(slices.Clone(l), 77, 78, 79)[:len(l)] }
	return api.Config{Voters: more(c.Voters), Learners: more(c.Learners)}
}

// unchanged fails the test unless a copy by deep is as it was made, with what is behind its lists.
func unchanged(t *testing.T, what string, c, was api.Config) {
	t.Helper()
	for n, l := range [][]int{c.Voters, c.Learners} {
		want := append(slices.Clone([][]int{was.Voters, was.Learners}[n]), 77, 78, 79)
		if got := l[:len(want)]; !slices.Equal(got, want) {
			t.Errorf("%s has changed its argument to %v, and was given %v", what, got, want)
		}
	}
}

// spoil writes over all the memory of a list, up to its capacity.
func spoil(l []int) {
	l = l[:cap(l)]
	for n := range l {
		l[n] = 99
	}
}

// separate fails the test if a result of f shares memory with an earlier or a later one, or if its lists share some.
func separate(t *testing.T, what string, f func() api.Config) {
	t.Helper()
	first, second := f(), f()
	was := deep(second)
	spoil(first.Voters)
	if !same(second, was) || !same(f(), was) || !slices.Equal(first.Learners, was.Learners) {
		t.Errorf("%s: what is written to Voters is seen elsewhere", what)
	}
	first = f()
	spoil(first.Learners)
	if !same(second, was) || !same(f(), was) || !slices.Equal(first.Voters, was.Voters) {
		t.Errorf("%s: what is written to Learners is seen elsewhere", what)
	}
}

// encoded answers the encoding of a valid configuration.
func encoded(t *testing.T, c api.Config) []byte {
	t.Helper()
	b, e := config.Encode(c)
	if e != api.OK {
		t.Fatalf("Encode of %v answers %d", c, e)
	}
	return b
}

// none fails the test unless these bytes are those of no configuration.
func none(t *testing.T, b []byte) {
	t.Helper()
	if c, e := config.Decode(b); e != api.ErrConfigForm || !zero(c) {
		t.Errorf("Decode of % x answers %v, %d, want nothing, ErrConfigForm", b, c, e)
	}
}

// layout answers what the document says of the bytes of a configuration, be it valid or not.
func layout(c api.Config) []byte {
	var b []byte
	for _, l := range [][]int{c.Voters, c.Learners} {
		b = append(b, byte(len(l)))
		for _, n := range l {
			b = append(b, byte(n))
		}
	}
	return b
}

// The helpers themselves: there are as many valid configurations as ways to cast the nodes, but for those without a voter.
func TestCastings(t *testing.T) {
	l := castings()
	if len(l) != 6561-256 {
		t.Fatalf("there are %d castings", len(l))
	}
	if c := (casting{'v', 'l', '-', 'v', '-', '-', '-', 'l'}).config(); !reflect.DeepEqual(c, with([]int{0, 3}, 1, 7)) {
		t.Errorf("a casting is the configuration %v", c)
	}
}
