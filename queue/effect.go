package queue

import (
	"math"
	"slices"

	"dockyard/api"
	"dockyard/graph"
	"dockyard/lease"
	"dockyard/ready"
	"dockyard/stale"
)

// advance is of no session: the time is that of the cluster.
func (q *Queue) advance(c api.Command) api.Answer {
	if c.Time > q.now {
		q.now = c.Time
		for i := range q.graphs {
			row := &q.graphs[i]
			row.States = ready.Expire(row.States, q.now)
		}
	}
	return api.Answer{}
}

func (q *Queue) open(c api.Command) api.Answer { return refusal(q.sessions.Open(c.Session)) }

func (q *Queue) submit(c api.Command) api.Answer {
	if e := graph.Check(c.Graph); e != api.OK {
		return refusal(e)
	}
	// The greatest number is given to no graph, as there would be no next one.
	if len(q.graphs) >= api.MaxGraphs || q.next == math.MaxUint64 {
		return refusal(api.ErrQueueFull)
	}
	row := api.GraphRow{Id: q.next, Graph: copiedGraph(c.Graph)}
	row.States = ready.Start(row.Graph, stale.Fresh(row.Graph, q.isBuilt))
	q.graphs = append(q.graphs, row)
	q.next++
	return api.Answer{Id: row.Id}
}

func (q *Queue) isBuilt(key uint64) bool { return slices.Contains(q.built, key) }

func (q *Queue) claim(api.Command) api.Answer {
	for i := range q.graphs {
		if place, there := ready.Next(q.graphs[i].States); there {
			return q.lease(&q.graphs[i], place)
		}
	}
	return refusal(api.ErrQueueIdle)
}

// lease gives a target that is ready to whoever has asked.
func (q *Queue) lease(row *api.GraphRow, place int) api.Answer {
	office, s, e := q.office.Grant(q.now)
	if e != api.OK {
		return refusal(e)
	}
	q.office = office
	row.States[place] = s
	target := row.Graph.Targets[place]
	return api.Answer{Id: row.Id, Token: s.Token, Until: s.Until, Target: target.Name, Command: target.Command}
}

// held answers the graph, and the place in it, of the target whose lease a token holds. No token holds two.
func (q *Queue) held(token uint64) (*api.GraphRow, int, bool) {
	for i := range q.graphs {
		row := &q.graphs[i]
		for place, s := range row.States {
			if lease.Holds(s, token, q.now) {
				return row, place, true
			}
		}
	}
	return nil, 0, false
}

func (q *Queue) renew(c api.Command) api.Answer {
	row, place, there := q.held(c.Token)
	if !there {
		return refusal(api.ErrLeaseStale)
	}
	s, e := lease.Renew(row.States[place], c.Token, q.now)
	if e != api.OK {
		return refusal(e)
	}
	row.States[place] = s
	return api.Answer{Id: row.Id, Token: s.Token, Until: s.Until, Target: row.Graph.Targets[place].Name}
}

func (q *Queue) report(c api.Command) api.Answer {
	row, place, there := q.held(c.Token)
	if !there {
		return refusal(api.ErrLeaseStale)
	}
	result := api.State{State: api.Failed}
	if c.Good {
		result.State = api.Done
		q.remember(stale.Keys(row.Graph)[place])
	}
	row.States[place] = result
	row.States = ready.Settle(row.Graph, row.States)
	return api.Answer{Id: row.Id, Target: row.Graph.Targets[place].Name}
}

// remember adds a key to what was built, and forgets the oldest one if there are too many.
func (q *Queue) remember(key uint64) {
	if q.isBuilt(key) {
		return
	}
	q.built = append(q.built, key)
	if len(q.built) > api.MaxBuilt {
		q.built = slices.Delete(q.built, 0, 1)
	}
}

func (q *Queue) cancel(c api.Command) api.Answer {
	place, there := q.find(c.Id)
	if !there {
		return refusal(api.ErrQueueNone)
	}
	if row := &q.graphs[place]; ready.Over(row.States) {
		q.graphs = slices.Delete(q.graphs, place, place+1)
	} else {
		row.States = ready.Cancel(row.States)
	}
	return api.Answer{Id: c.Id}
}
