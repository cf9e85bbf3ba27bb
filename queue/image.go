package queue

import (
	"slices"

	"dockyard/api"
	"dockyard/graph"
	"dockyard/lease"
	"dockyard/ready"
	"dockyard/session"
)

// Dump answers all that a queue is.
func (q *Queue) Dump() api.Image {
	return api.Image{
		Now:       q.now,
		NextGraph: q.next,
		NextToken: q.office.Next(),
		Sessions:  q.sessions.Rows(),
		Graphs:    copiedRows(q.graphs),
		Built:     slices.Clone(q.built),
	}
}

// Load answers the queue of which that was dumped, if there can be one.
func Load(i api.Image) (*Queue, api.Errno) {
	sessions, e := session.Load(i.Sessions)
	if e != api.OK || i.NextGraph == 0 || i.NextToken == 0 || !rowsRight(i) || !leasesRight(i) || !builtRight(i.Built) {
		return nil, api.ErrArg
	}
	return &Queue{
		now:      i.Now,
		next:     i.NextGraph,
		office:   lease.New(i.NextToken),
		sessions: sessions,
		graphs:   copiedRows(i.Graphs),
		built:    slices.Clone(i.Built),
	}, api.OK
}

// rowsRight answers whether the numbers of the graphs were given in order, and each graph is right if it is looked at alone.
func rowsRight(i api.Image) bool {
	if len(i.Graphs) > api.MaxGraphs {
		return false
	}
	// The first number is held against 0, so that none of them is 0.
	before := uint64(0)
	for _, row := range i.Graphs {
		if row.Id <= before || row.Id >= i.NextGraph || !rowRight(row) {
			return false
		}
		before = row.Id
	}
	return true
}

// rowRight asks for the number of states by itself: Settle answers nothing of a wrong one, and nothing is what an empty list of states is equal to.
func rowRight(row api.GraphRow) bool {
	return graph.Check(row.Graph) == api.OK &&
		len(row.States) == len(row.Graph.Targets) &&
		slices.Equal(ready.Settle(row.Graph, row.States), row.States)
}

// leasesRight answers whether the states are those of a queue at that time, and each token was given once.
func leasesRight(i api.Image) bool {
	var tokens []uint64
	for _, row := range i.Graphs {
		for _, s := range row.States {
			if !stateRight(s, i) {
				return false
			}
			if s.State == api.Leased {
				tokens = append(tokens, s.Token)
			}
		}
	}
	return distinct(tokens)
}

func stateRight(s api.State, i api.Image) bool {
	if s.State == api.Leased {
		return lease.Holds(s, s.Token, i.Now) && s.Token < i.NextToken
	}
	return s == api.State{State: s.State} && s.State >= api.Waiting && s.State <= api.Cancelled
}

func builtRight(keys []uint64) bool { return len(keys) <= api.MaxBuilt && distinct(keys) }

func distinct(l []uint64) bool {
	sorted := slices.Clone(l)
	slices.Sort(sorted)
	return len(slices.Compact(sorted)) == len(l)
}

func copiedRows(l []api.GraphRow) []api.GraphRow {
	rows := slices.Clone(l)
	for i := range rows {
		rows[i].Graph = copiedGraph(l[i].Graph)
		rows[i].States = slices.Clone(l[i].States)
	}
	return rows
}

func copiedGraph(g api.Graph) api.Graph {
	targets := slices.Clone(g.Targets)
	for i := range targets {
		targets[i].Needs = slices.Clone(g.Targets[i].Needs)
	}
	return api.Graph{Targets: targets}
}
