package queue_test

import (
	"fmt"
	"maps"
	"math"
	"math/rand/v2"
	"reflect"
	"slices"
	"testing"

	"dockyard/api"
	"dockyard/graph"
	"dockyard/queue"
	"dockyard/stale"
)

const most = math.MaxUint64

// read answers a graph that is told as a text.
func read(s string) api.Graph {
	g, e := graph.Parse(s)
	if e != api.OK {
		panic(fmt.Sprint("no graph: ", s, e))
	}
	return g
}

// Graphs: a single target; "a" which needs "b"; "d" which needs "b" and "c", and these need "a".
func single() api.Graph  { return read("a:\n\tcc a\n") }
func pair() api.Graph    { return read("a: b\n\tcc a\nb:\n\tcc b\n") }
func diamond() api.Graph { return read("d: b c\n\tcc d\nb: a\n\tcc b\nc: a\n\tcc c\na:\n\tcc a\n") }

// named answers a graph of one target, whose key is that of no other number.
func named(n int) api.Graph { return read(fmt.Sprintf("a:\n\tcc %d\n", n)) }

// wide answers a graph of n targets which need nothing, and whose commands have this text in them.
func wide(n int, text string) api.Graph {
	var g api.Graph
	for i := range n {
		g.Targets = append(g.Targets, api.Target{Name: fmt.Sprint("t", i), Command: fmt.Sprint(text, i)})
	}
	return g
}

func leased(token, until uint64) api.State {
	return api.State{State: api.Leased, Token: token, Until: until}
}

// states answers states that are no leases.
func states(kinds ...int) []api.State {
	var l []api.State
	for _, kind := range kinds {
		l = append(l, api.State{State: kind})
	}
	return l
}

// An asker gives the commands of one session their numbers.
type asker struct {
	t       *testing.T
	q       *queue.Queue
	session uint64
	seq     uint64
}

// begin answers an asker of a new queue.
func begin(t *testing.T) *asker {
	t.Helper()
	return ask(t, queue.New(), 1)
}

// ask answers an asker of a session that is opened.
func ask(t *testing.T, q *queue.Queue, session uint64) *asker {
	t.Helper()
	if a := q.Apply(api.Command{Kind: api.CmdOpen, Session: session}); a != (api.Answer{}) {
		t.Fatalf("Open of %d answers %v", session, a)
	}
	return &asker{t: t, q: q, session: session}
}

// do applies a command under the next number.
func (a *asker) do(c api.Command) api.Answer {
	a.seq++
	c.Session, c.Seq = a.session, a.seq
	return a.q.Apply(c)
}

// is fails the test unless the command, under the next number, is answered that.
func (a *asker) is(c api.Command, want api.Answer) {
	a.t.Helper()
	if got := a.do(c); got != want {
		a.t.Errorf("the command %v of kind %d is answered %v, want %v", c, c.Kind, got, want)
	}
}

// advance sets the time.
func (a *asker) advance(now uint64) {
	a.t.Helper()
	if got := a.q.Apply(api.Command{Kind: api.CmdAdvance, Time: now}); got != (api.Answer{}) {
		a.t.Errorf("Advance to %d is answered %v", now, got)
	}
}

// stands fails the test unless these are the states of a graph.
func (a *asker) stands(id uint64, want ...api.State) {
	a.t.Helper()
	v := a.q.View(id)
	if v.Code != api.OK || v.Now != a.q.Now() || !slices.Equal(v.States, want) {
		a.t.Errorf("View of %d answers %v, want the states %v at %d", id, v, want, a.q.Now())
	}
}

// build claims a target and reports it, and fails the test unless it was that one.
func (a *asker) build(target string, good bool) {
	a.t.Helper()
	x := a.do(api.Command{Kind: api.CmdClaim})
	if x.Code != api.OK || x.Target != target {
		a.t.Fatalf("Claim is answered %v, want %s", x, target)
	}
	a.is(api.Command{Kind: api.CmdReport, Token: x.Token, Good: good}, api.Answer{Id: x.Id, Target: target})
}

// plain answers the same image with nil for each list that is empty.
func plain(i api.Image) api.Image {
	i.Sessions, i.Built = cut(i.Sessions), cut(i.Built)
	i.Graphs = cut(slices.Clone(i.Graphs))
	for n := range i.Graphs {
		row := &i.Graphs[n]
		row.States = cut(row.States)
		row.Graph.Targets = cut(slices.Clone(row.Graph.Targets))
		for m := range row.Graph.Targets {
			row.Graph.Targets[m].Needs = cut(row.Graph.Targets[m].Needs)
		}
	}
	return i
}

func cut[T any](l []T) []T {
	if len(l) == 0 {
		return nil
	}
	return l
}

func same(a, b api.Image) bool { return reflect.DeepEqual(plain(a), plain(b)) }

// kept answers a copy that shares no memory.
func kept(i api.Image) api.Image {
	i = modelOf(i).dump()
	for n, row := range i.Graphs {
		s, _ := graph.Print(row.Graph)
		i.Graphs[n].Graph = read(s)
	}
	return i
}

// dumps fails the test unless the queue is that.
func dumps(t *testing.T, q *queue.Queue, want api.Image) {
	t.Helper()
	if got := q.Dump(); !same(got, want) {
		t.Errorf("Dump answers\n%v, want\n%v", got, want)
	}
}

// loaded answers the queue of an image.
func loaded(t *testing.T, i api.Image) *queue.Queue {
	t.Helper()
	q, e := queue.Load(i)
	if e != api.OK || q == nil {
		t.Fatalf("Load of %v answers %v, %d", i, q, e)
	}
	dumps(t, q, i)
	return q
}

// spoil writes over all the memory of an image, up to the capacities.
func spoil(i api.Image) {
	for _, row := range i.Graphs[:cap(i.Graphs)] {
		spoilGraph(row.Graph)
		spoilList(row.States, api.State{State: 9, Token: 9, Until: 9})
	}
	spoilList(i.Graphs, api.GraphRow{Id: 99})
	spoilList(i.Sessions, api.SessionRow{Id: 99, Seq: 99, Answer: api.Answer{Id: 99}})
	spoilList(i.Built, 99)
}

func spoilGraph(g api.Graph) {
	for _, target := range g.Targets[:cap(g.Targets)] {
		spoilList(target.Needs, "spoilt")
	}
	spoilList(g.Targets, api.Target{Name: "spoilt", Command: "spoilt"})
}

func spoilList[T any](l []T, with T) {
	for n := range cap(l) {
		l[:cap(l)][n] = with
	}
}

// A model is what the document asks of a queue, by the plainest means.
type model struct {
	now, nextGraph, nextToken uint64
	sessions                  map[uint64]api.SessionRow
	graphs                    map[uint64]api.GraphRow
	built                     []uint64
}

func newModel() *model {
	return &model{nextGraph: 1, nextToken: 1, sessions: map[uint64]api.SessionRow{}, graphs: map[uint64]api.GraphRow{}}
}

// modelOf answers the model of an image.
func modelOf(i api.Image) *model {
	m := newModel()
	m.now, m.nextGraph, m.nextToken, m.built = i.Now, i.NextGraph, i.NextToken, slices.Clone(i.Built)
	for _, row := range i.Sessions {
		m.sessions[row.Id] = row
	}
	for _, row := range i.Graphs {
		row.States = slices.Clone(row.States)
		m.graphs[row.Id] = row
	}
	return m
}

func (m *model) numbers() []uint64 { return slices.Sorted(maps.Keys(m.graphs)) }

func (m *model) dump() api.Image {
	i := api.Image{Now: m.now, NextGraph: m.nextGraph, NextToken: m.nextToken, Built: slices.Clone(m.built)}
	for _, id := range slices.Sorted(maps.Keys(m.sessions)) {
		i.Sessions = append(i.Sessions, m.sessions[id])
	}
	for _, id := range m.numbers() {
		row := m.graphs[id]
		row.States = slices.Clone(row.States)
		i.Graphs = append(i.Graphs, row)
	}
	return i
}

func (m *model) apply(c api.Command) api.Answer {
	switch {
	case c.Kind < 1 || c.Kind > 7:
		return api.Answer{Code: 1}
	case c.Kind == 7:
		m.advance(c.Time)
		return api.Answer{}
	case c.Kind == 1:
		return api.Answer{Code: m.open(c.Session)}
	}
	row, there := m.sessions[c.Session]
	switch {
	case !there:
		return api.Answer{Code: 110}
	case c.Seq == 0 || c.Seq < row.Seq:
		return api.Answer{Code: 111}
	case c.Seq == row.Seq:
		return row.Answer
	}
	a := m.execute(c)
	m.sessions[c.Session] = api.SessionRow{Id: c.Session, Seq: c.Seq, Answer: a}
	return a
}

func (m *model) execute(c api.Command) api.Answer {
	switch c.Kind {
	case 2:
		return m.submit(c.Graph)
	case 3:
		return m.claim()
	case 6:
		return m.cancel(c.Id)
	}
	for _, id := range m.numbers() {
		for place, s := range m.graphs[id].States {
			if s.State != 2 || c.Token == 0 || s.Token != c.Token || s.Until <= m.now {
				continue
			}
			if c.Kind == 4 {
				return m.renew(id, place)
			}
			return m.report(id, place, c.Good)
		}
	}
	return api.Answer{Code: 100}
}

func (m *model) advance(now uint64) {
	m.now = max(m.now, now)
	for _, row := range m.graphs {
		for place, s := range row.States {
			if s.State == 2 && s.Until <= m.now {
				row.States[place] = api.State{State: 1}
			}
		}
	}
}

func (m *model) open(id uint64) api.Errno {
	_, there := m.sessions[id]
	switch {
	case id == 0:
		return 1
	case there:
		return 0
	case len(m.sessions) == 16:
		return 112
	}
	m.sessions[id] = api.SessionRow{Id: id}
	return 0
}

func (m *model) submit(g api.Graph) api.Answer {
	if e := graph.Check(g); e != 0 {
		return api.Answer{Code: e}
	}
	if len(m.graphs) == 16 || m.nextGraph == most {
		return api.Answer{Code: 120}
	}
	row := api.GraphRow{Id: m.nextGraph, Graph: g}
	for _, fresh := range stale.Fresh(g, func(key uint64) bool { return slices.Contains(m.built, key) }) {
		kind := 0
		if fresh {
			kind = 3
		}
		row.States = append(row.States, api.State{State: kind})
	}
	settle(row)
	m.graphs[row.Id] = row
	m.nextGraph++
	return api.Answer{Id: row.Id}
}

// settle goes over the targets until nothing changes any more.
func settle(row api.GraphRow) {
	for changed := true; changed; {
		changed = false
		for place, target := range row.Graph.Targets {
			if row.States[place].State != 0 {
				continue
			}
			done, skipped := true, false
			for _, need := range target.Needs {
				at := slices.IndexFunc(row.Graph.Targets, func(t api.Target) bool { return t.Name == need })
				done = done && row.States[at].State == 3
				skipped = skipped || row.States[at].State > 3
			}
			switch {
			case skipped:
				row.States[place], changed = api.State{State: 5}, true
			case done:
				row.States[place], changed = api.State{State: 1}, true
			}
		}
	}
}

func (m *model) claim() api.Answer {
	for _, id := range m.numbers() {
		row := m.graphs[id]
		place := slices.Index(row.States, api.State{State: 1})
		if place < 0 {
			continue
		}
		if m.nextToken == most || m.now > most-8 {
			return api.Answer{Code: 101}
		}
		row.States[place] = leased(m.nextToken, m.now+8)
		m.nextToken++
		target := row.Graph.Targets[place]
		return api.Answer{Id: id, Token: m.nextToken - 1, Until: m.now + 8, Target: target.Name, Command: target.Command}
	}
	return api.Answer{Code: 122}
}

func (m *model) renew(id uint64, place int) api.Answer {
	if m.now > most-8 {
		return api.Answer{Code: 101}
	}
	s := &m.graphs[id].States[place]
	s.Until = max(s.Until, m.now+8)
	return api.Answer{Id: id, Token: s.Token, Until: s.Until, Target: m.graphs[id].Graph.Targets[place].Name}
}

func (m *model) report(id uint64, place int, good bool) api.Answer {
	row := m.graphs[id]
	row.States[place] = api.State{State: 4}
	if good {
		row.States[place] = api.State{State: 3}
		key := stale.Keys(row.Graph)[place]
		if !slices.Contains(m.built, key) {
			m.built = append(m.built, key)
		}
		m.built = m.built[max(0, len(m.built)-256):]
	}
	settle(row)
	return api.Answer{Id: id, Target: row.Graph.Targets[place].Name}
}

func (m *model) cancel(id uint64) api.Answer {
	row, there := m.graphs[id]
	if !there {
		return api.Answer{Code: 121}
	}
	over := true
	for place, s := range row.States {
		if s.State < 3 {
			over = false
			row.States[place] = api.State{State: 6}
		}
	}
	if over {
		delete(m.graphs, id)
	}
	return api.Answer{Id: id}
}

// chance is a source of commands that hit what there is often, and miss it now and then.
type chance struct {
	*rand.Rand
	seqs map[uint64]uint64
}

func newChance(seed uint64) *chance {
	return &chance{Rand: rand.New(rand.NewPCG(12, seed)), seqs: map[uint64]uint64{}}
}

func (r *chance) command(m *model) api.Command {
	c := api.Command{Kind: 1 + r.IntN(7), Session: 1 + r.Uint64N(3), Good: r.IntN(4) > 0}
	if r.IntN(40) == 0 {
		c.Session = r.Uint64N(20)
	}
	c.Seq = r.seqs[c.Session]
	if c.Seq == 0 || r.IntN(8) > 0 {
		c.Seq += 1 + r.Uint64N(2)
	}
	r.seqs[c.Session] = c.Seq
	if r.IntN(40) == 0 {
		c.Seq -= min(c.Seq, r.Uint64N(3))
	}
	switch c.Kind {
	case api.CmdSubmit:
		c.Graph = r.graph()
	case api.CmdRenew, api.CmdReport:
		c.Token = m.nextToken - min(m.nextToken, r.Uint64N(6))
	case api.CmdCancel:
		if c.Id = m.nextGraph - min(m.nextGraph, r.Uint64N(12)); r.IntN(2) > 0 {
			c.Kind = api.CmdReport
			c.Token = m.nextToken - 1
		}
	case api.CmdAdvance:
		c.Time = m.now - min(m.now, 2) + min(most-m.now, r.Uint64N(6))
	}
	return c
}

// graph answers a graph whose targets need some of those with smaller names; now and then one that is not valid.
func (r *chance) graph() api.Graph {
	var g api.Graph
	n := 1 + r.IntN(5)
	for i := range n {
		target := api.Target{Name: string(rune('a' + i)), Command: fmt.Sprint("cc ", r.IntN(4))}
		for need := range i {
			if r.IntN(3) == 0 {
				target.Needs = append(target.Needs, string(rune('a'+need)))
			}
		}
		g.Targets = append(g.Targets, target)
	}
	if r.IntN(15) == 0 {
		g.Targets[0].Needs = []string{string(rune('a' + r.IntN(7)))}
	}
	r.Shuffle(n, func(i, j int) { g.Targets[i], g.Targets[j] = g.Targets[j], g.Targets[i] })
	return g
}

// act applies one command to both, and fails the test unless both answer the same and stand the same.
func (r *chance) act(t *testing.T, q *queue.Queue, m *model) (api.Command, api.Answer) {
	t.Helper()
	c := r.command(m)
	want := m.apply(c)
	if got := q.Apply(c); got != want {
		t.Errorf("the command %v of kind %d is answered %v, want %v", c, c.Kind, got, want)
	}
	dumps(t, q, m.dump())
	if q.Now() != m.now {
		t.Errorf("it is %d, want %d", q.Now(), m.now)
	}
	if t.Failed() {
		t.Fatalf("behind the command %v", c)
	}
	return c, want
}

// keysOf answers the keys of graphs of one target.
func keysOf(numbers ...int) []uint64 {
	var l []uint64
	for _, n := range numbers {
		l = append(l, stale.Keys(named(n))...)
	}
	return l
}
