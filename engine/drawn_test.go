package engine

import (
	"slices"
	"testing"

	"paceline/api"
	"paceline/rounds"
)

// die: numbers that look drawn, the same each time.
type die uint64

func (d *die) below(n int) int {
	*d = *d*6364136223846793005 + 1442695040888963407
	return int(uint64(*d>>33) % uint64(n))
}

// oneOf some numbers.
func (d *die) oneOf(l ...int) int { return l[d.below(len(l))] }

// graph with at most so many vertices and edges.
func (d *die) graph(n, edges int) api.Graph {
	g := api.Graph{N: 1 + d.below(n)}
	most := d.oneOf(1, 9, 9, api.MaxWeight+1)
	for range d.below(edges + 1) {
		g.Edges = append(g.Edges, api.Edge{From: d.below(g.N), To: d.below(g.N), Weight: d.below(most)})
	}
	return g
}

// heavy graph: a chain of edges so heavy that four or five are too much, and others, heavy or not.
func (d *die) heavy() api.Graph {
	g := chain(6+d.below(4), api.MaxWeight-d.below(3))
	for range d.below(2 * g.N) {
		g.Edges = append(g.Edges, api.Edge{From: d.below(g.N), To: d.below(g.N), Weight: d.oneOf(0, 1, api.MaxWeight, api.MaxWeight)})
	}
	return g
}

func (d *die) job(n, edges int) api.Job {
	if d.below(5) == 0 {
		return api.Job{Graph: d.heavy(), Kind: api.Dist, Source: d.below(2)}
	}
	g := d.graph(n, edges)
	return api.Job{Graph: g, Kind: 1 + d.below(3), Source: d.below(g.N)}
}

func (d *die) task(n, edges int) api.Task {
	return api.Task{
		Job:     d.job(n, edges),
		Workers: d.oneOf(1, 2, 2, 3, 4, api.MaxWorkers),
		Every:   d.oneOf(1, 1, 2, 3, 7, api.MaxStep),
		Budget:  d.oneOf(1, 2, 3, 5, api.MaxBudget),
	}
}

// kinds of moves to draw from: each list is another kind of luck.
func (d *die) luck() []int {
	fine := []int{api.Work, api.Work, api.Work, api.Work, api.All, api.Lead, api.Lead}
	mixed := []int{api.Work, api.Work, api.Work, api.Carry, api.Carry, api.Carry, api.Lose, api.Double, api.Double, api.Lead}
	lossy := []int{api.Work, api.Work, api.Work, api.Carry, api.Lose, api.Lose, api.Double, api.All, api.Lead}
	rough := []int{api.Work, api.Work, api.Work, api.Work, api.Work, api.Carry, api.Lose, api.Double, api.All, api.All, api.Crash, api.Start, api.Start, api.Lead, api.Lead, api.Lead}
	rare := slices.Concat(fine, fine, fine, fine, fine, []int{api.Crash, api.Start, api.Start, api.Start, api.Start, api.Start, api.Start})
	flood := []int{api.Work, api.Work, api.Work, api.Work, api.Work, api.Work, api.Work, api.Double, api.Carry, api.Lose}
	all := [][]int{fine, mixed, lossy, rough, rare, flood}
	return all[d.below(len(all))]
}

func (d *die) move(luck []int, t api.Task) api.Move {
	m := api.Move{Kind: luck[d.below(len(luck))]}
	switch m.Kind {
	case api.Work, api.Crash, api.Start:
		m.At = d.below(t.Workers)
	default:
		m.At = d.oneOf(0, d.below(10), d.below(5000), d.below(1<<30)<<30)
	}
	m.Keep = d.oneOf(0, 1, d.below(20), d.below(200), 1<<62)
	return m
}

func (d *die) moves(t api.Task, n int) []api.Move {
	luck := d.luck()
	var l []api.Move
	for range n {
		if d.below(150) == 0 {
			luck = d.luck()
		}
		l = append(l, d.move(luck, t))
	}
	return l
}

// fairRounds: so many.
func fairRounds(t api.Task, n int) []api.Move {
	var l []api.Move
	for range n {
		for w := range t.Workers {
			l = append(l, api.Move{Kind: api.Work, At: w})
		}
		l = append(l, api.Move{Kind: api.All}, api.Move{Kind: api.Lead})
	}
	return l
}

func startAll(t api.Task) []api.Move {
	var l []api.Move
	for w := range t.Workers {
		l = append(l, api.Move{Kind: api.Start, At: w})
	}
	return l
}

// asModel: behind each of some beginnings of the moves, and behind all of them, the outcome is the model's.
func asModel(t *testing.T, x api.Task, moves []api.Move, every int) {
	t.Helper()
	m := newModel(x)
	for i := 0; ; i++ {
		if i%every == 0 || i == len(moves) {
			got, e := Run(x, moves[:i])
			if want := m.outcome(); e != api.OK || !same(got, want) {
				t.Fatalf("Run %s behind %s = %s %d, want %s", tell(x), tellMoves(moves[:i]), tell(got), e, tell(want))
			}
		}
		if i == len(moves) {
			return
		}
		m.move(moves[i])
	}
}

// P16.3 to P16.8: small tasks, behind every single move.
func TestDrawnEachMove(t *testing.T) {
	d := die(1)
	for range 300 {
		x := d.task(6, 9)
		asModel(t, x, d.moves(x, d.below(90)), 1)
	}
}

// P16.3 to P16.8: small tasks and long scripts, with fair rounds in between, so that many come far and to their end.
func TestDrawnLong(t *testing.T) {
	d := die(2)
	for range 600 {
		x := d.task(8, 14)
		var l []api.Move
		for range 1 + d.below(6) {
			l = slices.Concat(l, d.moves(x, d.below(200)), startAll(x), fairRounds(x, d.below(20)))
		}
		asModel(t, x, l, 97)
	}
}

// P16.3 to P16.8: greater tasks, with much mail a link.
func TestDrawnGreat(t *testing.T) {
	d := die(3)
	for range 40 {
		x := d.task(60, 300)
		var l []api.Move
		for range 3 {
			l = slices.Concat(l, fairRounds(x, d.below(60)), d.moves(x, d.below(900)), startAll(x))
		}
		asModel(t, x, append(l, fairRounds(x, 300)...), 1500)
	}
}

// P16.3: a great many datagrams on the way, from the midst of which they are carried, lost and doubled.
func TestDrawnFlood(t *testing.T) {
	d := die(4)
	for range 12 {
		x := d.task(40, 200)
		x.Workers = d.oneOf(2, 4, api.MaxWorkers)
		l := fairRounds(x, d.below(30))
		for range 2000 {
			l = append(l, api.Move{Kind: api.Work, At: d.below(x.Workers)})
		}
		for range 1500 {
			l = append(l, d.move([]int{api.Carry, api.Lose, api.Double}, x))
		}
		asModel(t, x, slices.Concat(l, fairRounds(x, 100)), 2000)
	}
}

// P16.9, P16.6: behind any moves and so many fair rounds it is what rounds tell, at the same Step.
func TestDrawnEnds(t *testing.T) {
	d := die(5)
	for range 500 {
		x := d.task(6, 10)
		n, e := Limit(x)
		if e != api.OK {
			t.Fatalf("Limit %s = %d %d", tell(x), n, e)
		}
		l := slices.Concat(d.moves(x, d.below(250)), startAll(x))
		o, e := Run(x, slices.Concat(l, fairRounds(x, n)))
		if e != api.OK {
			t.Fatalf("Run %s = %d", tell(x), e)
		}
		s, e := rounds.Run(x.Job)
		switch {
		case e == api.ErrOver && o.Status == api.Over && len(o.Values) == 0:
		case e == api.OK && o.Status == api.Done && slices.Equal(o.Values, s.Values) && o.Step == s.Step:
		default:
			t.Fatalf("Run %s behind %s and %d fair rounds = %s, want %s %d", tell(x), tellMoves(l), n, tell(o), tell(s), e)
		}
	}
}

// What comes of it, by each outcome alone: what vertices are handed, when they wake, how old what was saved is, how much lies loose.
func TestDrawnComesOfIt(t *testing.T) {
	d := die(6)
	for range 150 {
		x := d.task(7, 12)
		states := newModel(x).states
		l := slices.Concat(d.moves(x, d.below(150)), startAll(x), fairRounds(x, d.below(30)), d.moves(x, d.below(150)), startAll(x), fairRounds(x, d.below(60)))
		saved := 0
		for n := 0; n <= len(l); n += 1 + d.below(15) {
			o, e := Run(x, l[:n])
			if e != api.OK || o.Saved < saved || o.Saved > o.Step || o.Saved%x.Every != 0 || o.Most >= x.Budget || o.Most < 0 {
				t.Fatalf("Run %s behind %s = %s %d: it was saved at %d", tell(x), tellMoves(l[:n]), tell(o), e, saved)
			}
			saved = o.Saved
			handedRight(t, states, o)
		}
	}
}

// handedRight: in each epoch each vertex once a round, with the mail that rounds hand it, and in the next round only when all that wake in this one did.
func handedRight(t *testing.T, states []api.State, o api.Outcome) {
	t.Helper()
	epoch, step := 0, 0
	woke := map[int]bool{}
	for i, h := range o.Handed {
		if h.Epoch > epoch {
			epoch, step = h.Epoch, h.Step
			clear(woke)
		}
		if h.Step == step+1 {
			for v := range states[step].Values {
				if wakes(states[step], v) && !woke[v] {
					t.Fatalf("%s: %d in round %d ahead of %d in round %d", tell(o), h.Vertex, h.Step, v, step)
				}
			}
			step++
			clear(woke)
		}
		if h.Epoch != epoch || h.Step != step || woke[h.Vertex] || !wakes(states[step], h.Vertex) || !slices.Equal(h.Mail, states[step].Mail[h.Vertex]) {
			t.Fatalf("%s: the waking %d, %v, may not be: in round %d vertices have %v", tell(o), i, h, step, states[step])
		}
		woke[h.Vertex] = true
	}
}

func wakes(s api.State, v int) bool { return s.Fresh || len(s.Mail[v]) > 0 }

// P16.6: behind Done or Over moves of all kinds do nothing.
func TestDrawnBehindEnd(t *testing.T) {
	d := die(7)
	for range 150 {
		x := d.task(5, 9)
		l := slices.Concat(d.moves(x, d.below(100)), startAll(x))
		n, _ := Limit(x)
		l = append(l, fairRounds(x, n)...)
		want, e := Run(x, l)
		if e != api.OK || want.Status == api.Running {
			t.Fatalf("Run %s behind %s = %s %d", tell(x), tellMoves(l), tell(want), e)
		}
		more := slices.Concat(d.moves(x, 100), startAll(x), fairRounds(x, 20))
		if got, e := Run(x, slices.Concat(l, more)); e != api.OK || !same(got, want) {
			t.Fatalf("Run %s behind %s and %s = %s %d, want %s", tell(x), tellMoves(l), tellMoves(more), tell(got), e, tell(want))
		}
	}
}

// The whole at its limits: all workers, all vertices, all edges, each kind, with crashes.
func TestDrawnLimits(t *testing.T) {
	d := die(8)
	g := api.Graph{N: api.MaxVertices}
	for range api.MaxEdges {
		g.Edges = append(g.Edges, api.Edge{From: d.below(g.N), To: d.below(g.N), Weight: d.below(9)})
	}
	for _, workers := range []int{1, api.MaxWorkers} {
		for kind := api.Dist; kind <= api.Strong; kind++ {
			for _, budget := range []int{1, 10, api.MaxBudget} {
				x := api.Task{Job: api.Job{Graph: g, Kind: kind, Source: g.N - 1}, Workers: workers, Every: 3, Budget: budget}
				l := slices.Concat(fairRounds(x, 900), d.moves(x, 900), startAll(x), fairRounds(x, 4000))
				asModel(t, x, l, 20000)
			}
		}
	}
}

// The greatest part of a graph and the most mail of great numbers: they are written, found again, and saved.
func TestDrawnHeavyStar(t *testing.T) {
	d := die(12)
	g := api.Graph{N: api.MaxVertices}
	for range api.MaxEdges {
		g.Edges = append(g.Edges, api.Edge{From: 0, To: d.below(g.N), Weight: api.MaxWeight - d.below(5)})
	}
	for _, workers := range []int{1, 2, api.MaxWorkers} {
		x := api.Task{Job: api.Job{Graph: g, Kind: api.Dist}, Workers: workers, Every: 1, Budget: 7}
		for _, n := range []int{0, 100, 390, 399, 405, 420, 470, 560} {
			l := slices.Concat(fairRounds(x, n), moves("crash 0 0, start 0, lead"), fairRounds(x, 600))
			asModel(t, x, l, 1<<30)
			if o, e := Run(x, l); e != api.OK || o.Status != api.Done {
				t.Errorf("Run %s = %s %d", tell(x), tell(o), e)
			}
		}
	}
}
