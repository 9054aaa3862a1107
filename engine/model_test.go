package engine

import (
	"slices"

	"paceline/api"
	"paceline/rounds"
)

// model: a run as the words tell it, without disks, queues, links and boards. Mail has no content here:
// it is counted, and what vertices have in each round is what rounds tell.
type model struct {
	task   api.Task
	states []api.State // ahead of each round; the last one is done, or too great a number comes of it
	told   api.Outcome
	crew   []modelWorker
	links  map[[2]int]*modelLink // by sender and receiver
	flying []modelGram
}

type modelWorker struct {
	down   bool
	waits  bool // for the lead
	saves  int  // pieces of work that are left of what it was asked to save
	todo   []int
	pushed int // mail that came in this round
}

// modelLink of an epoch: how much was sent, is acked, has come.
type modelLink struct{ sent, acked, came int }

type modelGram struct {
	from, to  int
	ack       bool
	epoch, no int
}

func newModel(t api.Task) *model {
	m := &model{task: t, crew: make([]modelWorker, t.Workers)}
	s, e := rounds.Begin(t.Job)
	for e == api.OK {
		m.states = append(m.states, s)
		if s.Done {
			break
		}
		s, e = rounds.Next(t.Job, s)
	}
	if m.states[0].Done {
		m.told.Status = api.Done
	}
	m.newEpoch()
	return m
}

func (m *model) newEpoch() {
	m.links = map[[2]int]*modelLink{}
	for i := range m.crew {
		m.crew[i] = modelWorker{}
		for k := range m.crew {
			m.links[[2]int{i, k}] = &modelLink{}
		}
	}
	m.beginRound(m.told.Saved)
}

func (m *model) beginRound(step int) {
	m.told.Step = step
	for i := range m.crew {
		m.crew[i].todo, m.crew[i].pushed = nil, 0
	}
	s := m.states[step]
	for v := range s.Values {
		if s.Fresh || len(s.Mail[v]) > 0 {
			k := &m.crew[v%m.task.Workers]
			k.todo = append(k.todo, v)
		}
	}
}

func (m *model) outcome() api.Outcome {
	o := m.told
	o.Flying = len(m.flying)
	if o.Status == api.Done {
		o.Values = m.states[len(m.states)-1].Values
	}
	return o
}

func (m *model) move(x api.Move) {
	if m.told.Status != api.Running {
		return
	}
	switch x.Kind {
	case api.Work:
		m.work(x.At)
	case api.Carry, api.Lose, api.Double:
		if len(m.flying) == 0 {
			return
		}
		at := x.At % len(m.flying)
		g := m.flying[at]
		if x.Kind != api.Double {
			m.flying = slices.Delete(m.flying, at, at+1)
		}
		if x.Kind != api.Lose {
			m.come(g)
		}
	case api.All:
		l := m.flying
		m.flying = nil
		for _, g := range l {
			m.come(g)
		}
	case api.Crash:
		m.crew[x.At] = modelWorker{down: true}
	case api.Start:
		if k := &m.crew[x.At]; k.down {
			*k = modelWorker{waits: true}
		}
	case api.Lead:
		m.lead()
	}
}

// asked: two pieces for what is saved; the next Lead that finds none left goes on.
const modelAsked, modelSaved = 3, 1

func (m *model) work(i int) {
	k := &m.crew[i]
	switch {
	case k.down || k.waits:
	case k.saves > modelSaved:
		k.saves--
	case k.saves == 0 && len(k.todo) > 0:
		v := k.todo[0]
		k.todo = k.todo[1:]
		m.wake(i, v)
	default:
		for to := range m.crew {
			l := m.links[[2]int{i, to}]
			for no := l.acked; to != i && no < min(l.sent, l.acked+api.Window); no++ {
				m.flying = append(m.flying, modelGram{i, to, false, m.told.Epoch, no})
			}
		}
	}
}

func (m *model) wake(i, v int) {
	step := m.told.Step
	s := m.states[step]
	m.told.Handed = append(m.told.Handed, api.Handed{Epoch: m.told.Epoch, Step: step, Vertex: v, Mail: s.Mail[v]})
	for _, x := range said(m.task.Job, s, v) {
		if x.over {
			m.told.Status = api.Over
			return
		}
		to := x.to % m.task.Workers
		if to == i {
			m.push(i)
		} else {
			m.links[[2]int{i, to}].sent++
		}
	}
}

// push: mail comes to a worker.
func (m *model) push(i int) {
	k := &m.crew[i]
	k.pushed++
	m.told.Most = max(m.told.Most, k.pushed%m.task.Budget)
}

func (m *model) come(g modelGram) {
	k := m.crew[g.to]
	if k.down || k.waits || g.epoch != m.told.Epoch {
		return
	}
	if g.ack {
		l := m.links[[2]int{g.to, g.from}]
		l.acked = max(l.acked, g.no)
		return
	}
	l := m.links[[2]int{g.from, g.to}]
	if g.no == l.came {
		l.came++
		m.push(g.to)
	}
	m.flying = append(m.flying, modelGram{g.to, g.from, true, g.epoch, l.came})
}

func (m *model) lead() {
	up, back, saved, through, came := true, false, true, true, true
	for _, k := range m.crew {
		up = up && !k.down
		back = back || k.waits
		saved = saved && k.saves == modelSaved
		through = through && k.saves == 0 && len(k.todo) == 0
	}
	for _, l := range m.links {
		came = came && l.came == l.sent
	}
	switch {
	case !up:
	case back:
		m.told.Epoch++
		m.newEpoch()
	case saved:
		for i := range m.crew {
			m.crew[i].saves = 0
		}
		m.told.Saved = m.told.Step + 1
		m.beginRound(m.told.Step + 1)
	case through && came:
		m.endRound(m.told.Step + 1)
	}
}

func (m *model) endRound(next int) {
	switch {
	case m.states[next].Done:
		m.told.Status, m.told.Step = api.Done, next
	case next%m.task.Every == 0:
		for i := range m.crew {
			m.crew[i].saves = modelAsked
		}
	default:
		m.beginRound(next)
	}
}

// saying along an edge: to which vertex, and whether it is too much.
type saying struct {
	to   int
	over bool
}

// said by a vertex in the round behind a state, by the words of chapter 11, edge by edge in order.
func said(j api.Job, s api.State, v int) []saying {
	x, says := value(j, s, v)
	if !says {
		return nil
	}
	out := j.Kind != api.Strong || s.Phase == api.Forward
	in := j.Kind == api.Weak || j.Kind == api.Strong && s.Phase == api.Back
	var l []saying
	edges := slices.Clone(j.Graph.Edges)
	slices.SortFunc(edges, func(a, b api.Edge) int {
		if a.To != b.To {
			return a.To - b.To
		}
		return a.Weight - b.Weight
	})
	for _, e := range edges {
		over := j.Kind == api.Dist && x+e.Weight > api.MaxDist
		if out && e.From == v {
			l = append(l, saying{e.To, over})
		}
		if in && e.To == v {
			l = append(l, saying{e.From, over})
		}
	}
	return l
}

// value A of a vertex behind a round in which it wakes, and whether it says so.
func value(j api.Job, s api.State, v int) (int, bool) {
	old := s.Values[v]
	switch {
	case j.Kind == api.Strong && old.Label != api.None:
		return old.A, false
	case s.Phase == api.Back && s.Fresh:
		return old.A, old.A == v
	case s.Phase == api.Back:
		return old.A, slices.Contains(s.Mail[v], old.A)
	case s.Fresh && j.Kind == api.Dist:
		return 0, v == j.Source
	case s.Fresh:
		return v, true
	}
	least := slices.Min(s.Mail[v])
	if old.A == api.None || least < old.A {
		return least, true
	}
	return old.A, false
}
