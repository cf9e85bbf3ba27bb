package config

import (
	"slices"

	"dockyard/api"
)

// Apply answers the configuration behind a change.
func Apply(c api.Config, x api.Change) (api.Config, api.Errno) {
	if e := Check(c); e != api.OK {
		return api.Config{}, e
	}
	if !possible(c, x) {
		return api.Config{}, api.ErrConfigChange
	}
	voters, learners := groupOf(c.Voters), groupOf(c.Learners)
	switch x.Kind {
	case api.AddLearner:
		learners = learners.with(x.Node)
	case api.Promote:
		voters, learners = voters.with(x.Node), learners.without(x.Node)
	case api.Remove:
		voters, learners = voters.without(x.Node), learners.without(x.Node)
	}
	return api.Config{Voters: voters.list(), Learners: learners.list()}, api.OK
}

// possible answers whether a valid configuration can be changed so.
func possible(c api.Config, x api.Change) bool {
	switch x.Kind {
	case api.AddLearner:
		return x.Node >= 0 && x.Node < api.MaxNodes && !Has(c, x.Node)
	case api.Promote:
		return learns(c, x.Node)
	case api.Remove:
		return learns(c, x.Node) || Votes(c, x.Node) && len(c.Voters) > 1
	}
	return false
}

// A group has the numbers of some nodes, ascending. As no node is in it twice, an array has room for all of them; and as it is a value, a change makes another group.
type group struct {
	numbers [api.MaxNodes]int
	size    int
}

// groupOf answers the group of the voters, or of the learners, of a valid configuration.
func groupOf(l []int) group {
	var g group
	g.size = copy(g.numbers[:], l)
	return g
}

// with answers the group together with a node that is not in it.
func (g group) with(node int) group {
	g.numbers[g.size] = node
	g.size++
	slices.Sort(g.numbers[:g.size])
	return g
}

// without answers the group without a node, which need not be in it.
func (g group) without(node int) group {
	left := slices.DeleteFunc(g.numbers[:g.size], func(n int) bool { return n == node })
	g.size = len(left)
	return g
}

func (g group) list() []int { return slices.Clone(g.numbers[:g.size]) }
