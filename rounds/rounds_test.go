package rounds

import (
	"fmt"
	"math"
	"slices"
	"strings"
	"testing"

	"paceline/api"
	"paceline/paths"
	"paceline/prog"
)

const (
	top  = api.MaxVertices - 1 // the greatest vertex
	none = api.None
)

// edge: one from a vertex to another one, with its weight.
func edge(from, to, weight int) api.Edge {
	return api.Edge{From: from, To: to, Weight: weight}
}

func graphOf(n int, l ...api.Edge) api.Graph { return api.Graph{N: n, Edges: l} }

func dist(source int, g api.Graph) api.Job {
	return api.Job{Graph: g, Kind: api.Dist, Source: source}
}

func weak(g api.Graph) api.Job { return api.Job{Graph: g, Kind: api.Weak} }

func strong(g api.Graph) api.Job { return api.Job{Graph: g, Kind: api.Strong} }

// many: so many edges from the first vertex to itself.
func many(n int) []api.Edge { return make([]api.Edge, n) }

// chain of all vertices, each with an edge to the next one, of that weight.
func chain(n, weight int) []api.Edge {
	var l []api.Edge
	for v := range n - 1 {
		l = append(l, edge(v, v+1, weight))
	}
	return l
}

func val(a, label int) api.Value { return api.Value{A: a, Label: label} }

// vals: values with these A, without a Label.
func vals(l ...int) []api.Value {
	var out []api.Value
	for _, a := range l {
		out = append(out, val(a, none))
	}
	return out
}

func mails(l ...[]int) [][]int { return l }

// between two rounds: neither fresh nor done.
func between(step, phase int, values []api.Value, mail [][]int) api.State {
	return api.State{Step: step, Phase: phase, Values: values, Mail: mail}
}

func fresh(step, phase int, values ...api.Value) api.State {
	return api.State{Step: step, Phase: phase, Fresh: true, Values: values, Mail: make([][]int, len(values))}
}

func done(step, phase int, values ...api.Value) api.State {
	return api.State{Step: step, Phase: phase, Done: true, Values: values, Mail: make([][]int, len(values))}
}

// tell in short what was handed in or answered: lists may be long.
func tell(x any) string { return fmt.Sprintf("%.400s", fmt.Sprint(x)) }

func same(a, b api.State) bool {
	return a.Step == b.Step && a.Phase == b.Phase && a.Fresh == b.Fresh && a.Done == b.Done &&
		slices.Equal(a.Values, b.Values) && slices.EqualFunc(a.Mail, b.Mail, slices.Equal)
}

func zero(s api.State) bool { return same(s, api.State{}) }

func checks(t *testing.T, j api.Job, want api.Errno) {
	t.Helper()
	if e := Check(j); e != want {
		t.Errorf("Check %s = %d, want %d", tell(j), e, want)
	}
}

func begins(t *testing.T, j api.Job, want api.State) {
	t.Helper()
	if s, e := Begin(j); e != api.OK || !same(s, want) {
		t.Errorf("Begin %s = %s %d, want %s", tell(j), tell(s), e, tell(want))
	}
}

func nexts(t *testing.T, j api.Job, s, want api.State) {
	t.Helper()
	if got, e := Next(j, s); e != api.OK || !same(got, want) {
		t.Errorf("Next %s %s = %s %d, want %s", tell(j), tell(s), tell(got), e, tell(want))
	}
}

func noNext(t *testing.T, j api.Job, s api.State, want api.Errno) {
	t.Helper()
	if got, e := Next(j, s); e != want || !zero(got) {
		t.Errorf("Next %s %s = %s %d, want none, %d", tell(j), tell(s), tell(got), e, want)
	}
}

func runs(t *testing.T, j api.Job, want api.State) {
	t.Helper()
	if got, e := Run(j); e != api.OK || !same(got, want) {
		t.Errorf("Run %s = %s %d, want %s", tell(j), tell(got), e, tell(want))
	}
}

func noRun(t *testing.T, j api.Job, want api.Errno) {
	t.Helper()
	if got, e := Run(j); e != want || !zero(got) {
		t.Errorf("Run %s = %s %d, want none, %d", tell(j), tell(got), e, want)
	}
}

func answers(t *testing.T, j api.Job, s api.State, want ...int) {
	t.Helper()
	if got, e := Answer(j, s); e != api.OK || !slices.Equal(got, want) {
		t.Errorf("Answer %s %s = %s %d, want %s", tell(j), tell(s), tell(got), e, tell(want))
	}
}

func noAnswer(t *testing.T, j api.Job, s api.State, want api.Errno) {
	t.Helper()
	if got, e := Answer(j, s); e != want || len(got) != 0 {
		t.Errorf("Answer %s %s = %s %d, want none, %d", tell(j), tell(s), tell(got), e, want)
	}
}

// mayNot be: Next and Answer answer ErrState.
func mayNot(t *testing.T, j api.Job, s api.State) {
	t.Helper()
	noNext(t, j, s, api.ErrState)
	noAnswer(t, j, s, api.ErrState)
}

// may be: neither Next nor Answer answers ErrState.
func may(t *testing.T, j api.Job, s api.State) {
	t.Helper()
	if got, e := Next(j, s); e == api.ErrState {
		t.Errorf("Next %s %s = %s, ErrState: it may be", tell(j), tell(s), tell(got))
	}
	if got, e := Answer(j, s); e == api.ErrState {
		t.Errorf("Answer %s %s = %s, ErrState: it may be", tell(j), tell(s), tell(got))
	}
}

// noJob: Check refuses the job with that error, and so do all others, ahead of all else.
func noJob(t *testing.T, j api.Job, want api.Errno) {
	t.Helper()
	checks(t, j, want)
	if s, e := Begin(j); e != want || !zero(s) {
		t.Errorf("Begin %s = %s %d, want none, %d", tell(j), tell(s), e, want)
	}
	noRun(t, j, want)
	n := min(max(j.Graph.N, 0), api.MaxVertices+1)
	values := slices.Repeat(vals(0), n)
	full := between(api.MaxStep, api.Forward, values, make([][]int, n))
	for _, s := range []api.State{{}, {Step: -1}, {Done: true}, {Fresh: true, Done: true}, fresh(0, api.Forward, values...), done(3, api.Forward, values...), done(3, 7, values...), full} {
		noNext(t, j, s, want)
		noAnswer(t, j, s, want)
	}
}

// outside: numbers that are not from least to most.
func outside(least, most int) []int {
	return []int{least - 1, least - 2, -1 << 32, math.MinInt, most + 1, most + 2, 1<<62 + 1, math.MaxInt}
}

// noKinds: numbers that are no kind.
func noKinds() []int {
	return []int{0, -1, -2, -3, 4, 5, 257, 1 << 32, 1<<32 + 1, math.MinInt, math.MaxInt}
}

// P13.1: jobs that are right.
func TestCheck(t *testing.T) {
	full := graphOf(api.MaxVertices, many(api.MaxEdges)...)
	for _, g := range []api.Graph{graphOf(1), graphOf(2, edge(0, 1, 0)), graphOf(1, edge(0, 0, api.MaxWeight)), full} {
		for _, source := range []int{0, g.N / 2, g.N - 1} {
			checks(t, dist(source, g), api.OK)
		}
	}
	for _, g := range []api.Graph{{}, {Edges: []api.Edge{}}, graphOf(1), graphOf(2, edge(1, 0, 9)), full} {
		for _, source := range []int{0, 1, g.N, -1, math.MinInt, math.MaxInt} {
			checks(t, api.Job{Graph: g, Kind: api.Weak, Source: source}, api.OK)
			checks(t, api.Job{Graph: g, Kind: api.Strong, Source: source}, api.OK)
		}
	}
}

// P13.1: a graph that is not right, ahead of a kind and a source that are not.
func TestCheckGraph(t *testing.T) {
	kinds := append(noKinds(), api.Dist, api.Weak, api.Strong)
	for _, kind := range kinds {
		for _, source := range []int{0, 1, -1, api.MaxVertices, math.MinInt, math.MaxInt} {
			for _, n := range outside(0, api.MaxVertices) {
				noJob(t, api.Job{Graph: api.Graph{N: n}, Kind: kind, Source: source}, api.ErrSize)
			}
			noJob(t, api.Job{Graph: graphOf(3, many(api.MaxEdges+1)...), Kind: kind, Source: source}, api.ErrSize)
			noJob(t, api.Job{Graph: graphOf(-1, edge(5, 5, -1)), Kind: kind, Source: source}, api.ErrSize)
			for _, l := range []api.Edge{edge(3, 0, 0), edge(0, 3, 0), edge(-1, 0, 0), edge(0, -1, 0), edge(0, 0, -1), edge(0, 0, api.MaxWeight+1)} {
				noJob(t, api.Job{Graph: graphOf(3, edge(0, 1, 1), l), Kind: kind, Source: source}, api.ErrRange)
			}
			noJob(t, api.Job{Graph: graphOf(0, edge(0, 0, 0)), Kind: kind, Source: source}, api.ErrRange)
		}
	}
}

// P13.1: no such kind, whatever the source.
func TestCheckKind(t *testing.T) {
	for _, kind := range noKinds() {
		for _, g := range []api.Graph{{}, graphOf(1), graphOf(3, edge(2, 1, 4))} {
			for _, source := range []int{0, 2, 3, -1, math.MinInt, math.MaxInt} {
				noJob(t, api.Job{Graph: g, Kind: kind, Source: source}, api.ErrForm)
			}
		}
	}
}

// P13.1: a source that is not inside; without vertices there is none.
func TestCheckSource(t *testing.T) {
	for _, n := range []int{0, 1, 2, 7, api.MaxVertices} {
		for _, source := range outside(0, n-1) {
			noJob(t, dist(source, graphOf(n)), api.ErrRange)
		}
	}
}

// P13.2
func TestBegin(t *testing.T) {
	for _, n := range []int{1, 2, 5, api.MaxVertices} {
		want := fresh(0, api.Forward, slices.Repeat(vals(none), n)...)
		for _, g := range []api.Graph{graphOf(n), graphOf(n, many(api.MaxEdges)...), graphOf(n, edge(n-1, 0, api.MaxWeight))} {
			begins(t, dist(0, g), want)
			begins(t, dist(n-1, g), want)
			begins(t, weak(g), want)
			begins(t, strong(g), want)
		}
	}
}

// P13.2, P13.6, P13.7: without vertices it is done as it begins.
func TestNoVertices(t *testing.T) {
	for _, g := range []api.Graph{{}, {Edges: []api.Edge{}}, {Edges: many(3)[:0]}} {
		for _, j := range []api.Job{weak(g), strong(g), {Graph: g, Kind: api.Weak, Source: -5}} {
			begins(t, j, done(0, api.Forward))
			nexts(t, j, done(0, api.Forward), done(0, api.Forward))
			runs(t, j, done(0, api.Forward))
			answers(t, j, done(0, api.Forward))
			answers(t, j, api.State{Step: 4, Done: true, Values: []api.Value{}, Mail: mails()})
		}
		// Others that are not done may be, and a round goes by.
		nexts(t, weak(g), fresh(0, api.Forward), done(1, api.Forward))
		nexts(t, weak(g), api.State{Step: 8}, done(9, api.Forward))
		nexts(t, strong(g), fresh(0, api.Forward), fresh(1, api.Back))
		nexts(t, strong(g), api.State{Step: 3}, fresh(4, api.Back))
		nexts(t, strong(g), fresh(1, api.Back), done(2, api.Back))
		nexts(t, strong(g), api.State{Step: 5, Phase: api.Back}, done(6, api.Back))
		noNext(t, strong(g), fresh(api.MaxStep, api.Back), api.ErrFull)
		noAnswer(t, strong(g), fresh(1, api.Back), api.ErrWait)
		mayNot(t, weak(g), fresh(0, api.Back))
		mayNot(t, strong(g), fresh(0, 2))
		mayNot(t, weak(g), api.State{Done: true, Values: vals(0)})
		mayNot(t, weak(g), api.State{Done: true, Mail: mails(nil)})
	}
}

// P13.2, P13.4 to P13.6: a job's states, from Begin to the one that is done, written by hand.
func goes(t *testing.T, j api.Job, l ...string) {
	t.Helper()
	s, e := Begin(j)
	for i, want := range l {
		if got := fmt.Sprint(s); e != api.OK || got != "{"+want+"}" {
			t.Fatalf("%v, state %d: %s %d, want %s", j, i, got, e, want)
		}
		if s.Done != (i == len(l)-1) {
			t.Fatalf("%v, state %d: Done %t", j, i, s.Done)
		}
		if s.Done {
			nexts(t, j, s, s)
			runs(t, j, s)
		}
		s, e = Next(j, s)
	}
}

// P13.4, P13.5: Weak; the first one is the chapter's example.
func TestWeak(t *testing.T) {
	goes(t, weak(graphOf(2, edge(0, 1, 0))),
		"0 0 true false [{-1 -1} {-1 -1}] [[] []]",
		"1 0 false false [{0 -1} {1 -1}] [[1] [0]]",
		"2 0 false false [{0 -1} {0 -1}] [[0] []]",
		"3 0 false true [{0 -1} {0 -1}] [[] []]")
	goes(t, weak(graphOf(4, edge(3, 2, 9), edge(1, 2, api.MaxWeight))),
		"0 0 true false [{-1 -1} {-1 -1} {-1 -1} {-1 -1}] [[] [] [] []]",
		"1 0 false false [{0 -1} {1 -1} {2 -1} {3 -1}] [[] [2] [1 3] [2]]",
		"2 0 false false [{0 -1} {1 -1} {1 -1} {2 -1}] [[] [1] [2] [1]]",
		"3 0 false false [{0 -1} {1 -1} {1 -1} {1 -1}] [[] [] [1] []]",
		"4 0 false true [{0 -1} {1 -1} {1 -1} {1 -1}] [[] [] [] []]")
}

// P13.4, P13.5: Dist, from the source, from the last vertex, and where a vertex is reached twice.
func TestDist(t *testing.T) {
	g := graphOf(4, edge(0, 1, 5), edge(0, 2, 1), edge(2, 1, 2), edge(1, 3, 1))
	goes(t, dist(0, g),
		"0 0 true false [{-1 -1} {-1 -1} {-1 -1} {-1 -1}] [[] [] [] []]",
		"1 0 false false [{0 -1} {-1 -1} {-1 -1} {-1 -1}] [[] [5] [1] []]",
		"2 0 false false [{0 -1} {5 -1} {1 -1} {-1 -1}] [[] [3] [] [6]]",
		"3 0 false false [{0 -1} {3 -1} {1 -1} {6 -1}] [[] [] [] [4]]",
		"4 0 false true [{0 -1} {3 -1} {1 -1} {4 -1}] [[] [] [] []]")
	goes(t, dist(3, g),
		"0 0 true false [{-1 -1} {-1 -1} {-1 -1} {-1 -1}] [[] [] [] []]",
		"1 0 false true [{-1 -1} {-1 -1} {-1 -1} {0 -1}] [[] [] [] []]")
	goes(t, dist(1, g),
		"0 0 true false [{-1 -1} {-1 -1} {-1 -1} {-1 -1}] [[] [] [] []]",
		"1 0 false false [{-1 -1} {0 -1} {-1 -1} {-1 -1}] [[] [] [] [1]]",
		"2 0 false true [{-1 -1} {0 -1} {-1 -1} {1 -1}] [[] [] [] []]")
}

// P13.4, P13.5: Strong, with each phase twice.
func TestStrong(t *testing.T) {
	goes(t, strong(graphOf(3, edge(0, 1, 0), edge(1, 2, 0), edge(2, 1, 0))),
		"0 0 true false [{-1 -1} {-1 -1} {-1 -1}] [[] [] []]",
		"1 0 false false [{0 -1} {1 -1} {2 -1}] [[] [0 2] [1]]",
		"2 0 false false [{0 -1} {0 -1} {1 -1}] [[] [1] [0]]",
		"3 0 false false [{0 -1} {0 -1} {0 -1}] [[] [0] []]",
		"4 1 true false [{0 -1} {0 -1} {0 -1}] [[] [] []]",
		"5 0 true false [{0 0} {0 -1} {0 -1}] [[] [] []]",
		"6 0 false false [{0 0} {1 -1} {2 -1}] [[] [2] [1]]",
		"7 0 false false [{0 0} {1 -1} {1 -1}] [[] [1] []]",
		"8 1 true false [{0 0} {1 -1} {1 -1}] [[] [] []]",
		"9 1 false false [{0 0} {1 1} {1 -1}] [[1] [] [1]]",
		"10 1 false false [{0 0} {1 1} {1 1}] [[] [1] []]",
		"11 1 false true [{0 0} {1 1} {1 1}] [[] [] []]")
}

// P13.4: an edge from a vertex to itself: its own mail, once, and with both ways twice.
func TestLoops(t *testing.T) {
	loop := graphOf(1, edge(0, 0, 3))
	goes(t, dist(0, loop),
		"0 0 true false [{-1 -1}] [[]]", "1 0 false false [{0 -1}] [[3]]", "2 0 false true [{0 -1}] [[]]")
	goes(t, weak(loop),
		"0 0 true false [{-1 -1}] [[]]", "1 0 false false [{0 -1}] [[0 0]]", "2 0 false true [{0 -1}] [[]]")
	goes(t, strong(loop),
		"0 0 true false [{-1 -1}] [[]]", "1 0 false false [{0 -1}] [[0]]", "2 1 true false [{0 -1}] [[]]",
		"3 1 false false [{0 0}] [[0]]", "4 1 false true [{0 0}] [[]]")
	twice := graphOf(2, edge(1, 1, 3), edge(1, 1, 0))
	nexts(t, dist(1, twice), fresh(0, 0, vals(none, none)...), between(1, 0, vals(none, 0), mails(nil, []int{0, 3})))
	nexts(t, weak(twice), fresh(0, 0, vals(none, none)...), between(1, 0, vals(0, 1), mails(nil, []int{1, 1, 1, 1})))
	nexts(t, strong(twice), fresh(0, 0, vals(none, none)...), between(1, 0, vals(0, 1), mails(nil, []int{1, 1})))
	nexts(t, strong(twice), fresh(0, 1, vals(0, 1)...), between(1, 1, []api.Value{val(0, 0), val(1, 1)}, mails(nil, []int{1, 1})))
}

// P13.4: once for each edge, where several lead from one vertex to another; what comes of them rises.
func TestAlike(t *testing.T) {
	g := graphOf(2, edge(0, 1, 2), edge(0, 1, 9), edge(0, 1, 2), edge(0, 1, 1))
	goes(t, dist(0, g),
		"0 0 true false [{-1 -1} {-1 -1}] [[] []]",
		"1 0 false false [{0 -1} {-1 -1}] [[] [1 2 2 9]]",
		"2 0 false true [{0 -1} {1 -1}] [[] []]")
	goes(t, weak(g),
		"0 0 true false [{-1 -1} {-1 -1}] [[] []]",
		"1 0 false false [{0 -1} {1 -1}] [[1 1 1 1] [0 0 0 0]]",
		"2 0 false false [{0 -1} {0 -1}] [[0 0 0 0] []]",
		"3 0 false true [{0 -1} {0 -1}] [[] []]")
	back := between(7, api.Back, vals(0, 1), mails(nil, []int{1, 1}))
	nexts(t, strong(g), back, between(8, api.Back, []api.Value{val(0, none), val(1, 1)}, mails([]int{1, 1, 1, 1}, nil)))
	// Mail of several vertices, the highest one's ahead in the list of edges.
	star := graphOf(5, edge(4, 0, 0), edge(2, 0, 0), edge(3, 0, 0), edge(1, 0, 0), edge(3, 0, 0))
	nexts(t, strong(star), fresh(0, 0, slices.Repeat(vals(none), 5)...), between(1, 0, vals(0, 1, 2, 3, 4), mails([]int{1, 2, 3, 3, 4}, nil, nil, nil, nil)))
}

// P13.4, P13.5: without edges nobody hears anything.
func TestNoEdges(t *testing.T) {
	goes(t, dist(2, graphOf(3)), "0 0 true false [{-1 -1} {-1 -1} {-1 -1}] [[] [] []]", "1 0 false true [{-1 -1} {-1 -1} {0 -1}] [[] [] []]")
	goes(t, weak(graphOf(2)), "0 0 true false [{-1 -1} {-1 -1}] [[] []]", "1 0 false true [{0 -1} {1 -1}] [[] []]")
	goes(t, strong(graphOf(2)), "0 0 true false [{-1 -1} {-1 -1}] [[] []]",
		"1 1 true false [{0 -1} {1 -1}] [[] []]", "2 1 false true [{0 0} {1 1}] [[] []]")
	goes(t, dist(0, graphOf(1)), "0 0 true false [{-1 -1}] [[]]", "1 0 false true [{0 -1}] [[]]")
	goes(t, weak(graphOf(1)), "0 0 true false [{-1 -1}] [[]]", "1 0 false true [{0 -1}] [[]]")
}

// P13.4: without being fresh those alone wake that have mail; the others stay, and say nothing.
func TestAsleep(t *testing.T) {
	g := graphOf(4, edge(0, 1, 1), edge(1, 2, 1), edge(2, 3, 1), edge(3, 0, 1))
	odd := []api.Value{val(9, 7), val(none, 3), val(4, none), val(api.MaxDist, top)}
	nexts(t, dist(2, g), between(5, 0, odd, make([][]int, 4)), done(6, 0, odd...))
	nexts(t, dist(2, g), between(5, 0, odd, mails(nil, []int{6, 8}, nil, nil)),
		between(6, 0, []api.Value{val(9, 7), val(6, 3), val(4, none), val(api.MaxDist, top)}, mails(nil, nil, []int{7}, nil)))
	nexts(t, dist(2, g), between(5, 0, odd, mails([]int{9, 10}, nil, []int{4}, nil)), done(6, 0, odd...))
	odd[3].A = top
	nexts(t, weak(g), between(5, 0, odd, mails(nil, nil, []int{0, 1}, nil)),
		between(6, 0, []api.Value{val(9, 7), val(none, 3), val(0, none), val(top, top)}, mails(nil, []int{0}, nil, []int{0})))
	// A vertex that has a Label wakes, and stays as it is.
	nexts(t, strong(g), between(5, 1, odd, mails([]int{9}, []int{0}, []int{3, 4}, []int{top})),
		between(6, 1, []api.Value{val(9, 7), val(none, 3), val(4, 4), val(top, top)}, mails(nil, []int{4}, nil, nil)))
	nexts(t, strong(g), fresh(5, 1, odd...), fresh(6, 0, odd...))
	nexts(t, strong(g), fresh(5, 0, odd...), between(6, 0, []api.Value{val(9, 7), val(none, 3), val(2, none), val(top, top)}, mails(nil, nil, nil, []int{2})))
}

// P13.4: when all are fresh, what was is forgotten by Dist and Weak.
func TestFreshAgain(t *testing.T) {
	g := graphOf(3, edge(0, 1, 4), edge(2, 1, 7))
	odd := []api.Value{val(9, 7), val(none, 3), val(4, none)}
	nexts(t, dist(2, g), fresh(8, 0, odd...), between(9, 0, vals(none, none, 0), mails(nil, []int{7}, nil)))
	nexts(t, weak(g), fresh(8, 0, odd...), between(9, 0, vals(0, 1, 2), mails([]int{1}, []int{0, 2}, []int{1})))
}

// P13.4: the same state, if it is done, whatever its values and its Step; the kind's greatest numbers, too.
func TestNextDone(t *testing.T) {
	g := graphOf(3, edge(0, 1, 4), edge(1, 2, api.MaxWeight), edge(2, 2, 1))
	for _, step := range []int{0, 1, 77, api.MaxStep - 1, api.MaxStep} {
		for _, l := range [][]api.Value{vals(none, none, none), vals(0, 4, 9), {val(top, top), val(0, 0), val(7, none)}} {
			nexts(t, dist(0, g), done(step, api.Forward, l...), done(step, api.Forward, l...))
			nexts(t, weak(g), done(step, api.Forward, l...), done(step, api.Forward, l...))
			nexts(t, strong(g), done(step, api.Forward, l...), done(step, api.Forward, l...))
			nexts(t, strong(g), done(step, api.Back, l...), done(step, api.Back, l...))
		}
		far := vals(api.MaxDist, api.MaxDist-1, none)
		nexts(t, dist(0, g), done(step, api.Forward, far...), done(step, api.Forward, far...))
	}
}

// P13.4: Step is one more, up to MaxStep; ErrFull there, ahead of ErrOver, behind ErrState.
func TestFull(t *testing.T) {
	g := graphOf(2, edge(0, 1, 4))
	for _, j := range []api.Job{dist(0, g), weak(g), strong(g)} {
		for _, step := range []int{0, 1, 77, api.MaxStep - 1} {
			for _, s := range []api.State{fresh(step, 0, vals(none, none)...), between(step, 0, vals(3, 3), mails(nil, []int{1})), between(step, 0, vals(3, 3), mails(nil, nil))} {
				if got, e := Next(j, s); e != api.OK || got.Step != step+1 {
					t.Errorf("Next %v %v = %v %d", j, s, got, e)
				}
				s.Step = api.MaxStep
				noNext(t, j, s, api.ErrFull)
				noAnswer(t, j, s, api.ErrWait)
				s.Step++
				mayNot(t, j, s)
			}
		}
	}
	over := between(api.MaxStep, 0, vals(none, none), mails([]int{api.MaxDist}, nil))
	noNext(t, dist(0, g), over, api.ErrFull)
	over.Step--
	noNext(t, dist(0, g), over, api.ErrOver)
	over.Values[1].A = -2
	mayNot(t, dist(0, g), over)
	over.Step++
	mayNot(t, dist(0, g), over)
}

// P13.4: sums just MaxDist and one above; only what is said counts.
func TestOver(t *testing.T) {
	far := api.MaxDist
	for _, w := range []int{0, 1, 5, api.MaxWeight} {
		g := graphOf(2, edge(0, 1, w))
		nexts(t, dist(0, g), between(3, 0, vals(none, none), mails([]int{far - w}, nil)), between(4, 0, vals(far-w, none), mails(nil, []int{far})))
		if w > 0 {
			noNext(t, dist(0, g), between(3, 0, vals(none, none), mails([]int{far - w + 1}, nil)), api.ErrOver)
			noNext(t, dist(0, g), between(3, 0, vals(none, far), mails([]int{far - w + 1, far}, []int{far})), api.ErrOver)
			// Not said: it stays as it is, it is asleep, or it has the edge's other end.
			nexts(t, dist(0, g), between(3, 0, vals(far-w+1, none), mails([]int{far - w + 1}, nil)), done(4, 0, vals(far-w+1, none)...))
			nexts(t, dist(0, g), between(3, 0, vals(far, far), mails(nil, []int{far})), done(4, 0, vals(far, far)...))
			nexts(t, dist(0, g), between(3, 0, vals(none, none), mails(nil, []int{far})), done(4, 0, vals(none, far)...))
		}
	}
	// One of many is enough, wherever it stands.
	for at := range 4 {
		l := []api.Edge{edge(0, 1, 1), edge(0, 1, 1), edge(0, 1, 1), edge(0, 1, 1)}
		s := between(0, 0, vals(none, none), mails([]int{far - 1}, nil))
		nexts(t, dist(0, graphOf(2, l...)), s, between(1, 0, vals(far-1, none), mails(nil, []int{far, far, far, far})))
		l[at].Weight = 2
		noNext(t, dist(0, graphOf(2, l...)), s, api.ErrOver)
	}
	// The other kinds do not count weights.
	g := graphOf(2, edge(0, 1, api.MaxWeight))
	nexts(t, weak(g), between(0, 0, vals(none, none), mails(nil, []int{top})), between(1, 0, vals(none, top), mails([]int{top}, nil)))
	nexts(t, strong(g), between(0, 0, vals(none, none), mails([]int{top}, nil)), between(1, 0, vals(top, none), mails(nil, []int{top})))
	nexts(t, strong(g), between(0, 1, vals(none, top), mails(nil, []int{top})), between(1, 1, []api.Value{val(none, none), val(top, top)}, mails([]int{top}, nil)))
}

// P13.5: there is mail behind the round: the Phase stays.
func TestGoesOn(t *testing.T) {
	g := graphOf(2, edge(0, 1, 4), edge(1, 0, 4))
	nexts(t, dist(0, g), between(1, 0, vals(none, none), mails([]int{1}, nil)), between(2, 0, vals(1, none), mails(nil, []int{5})))
	nexts(t, strong(g), between(1, 0, vals(none, none), mails([]int{1}, nil)), between(2, 0, vals(1, none), mails(nil, []int{1})))
	nexts(t, strong(g), between(1, 1, vals(1, 1), mails([]int{1}, nil)), between(2, 1, []api.Value{val(1, 1), val(1, none)}, mails(nil, []int{1})))
	// Labels do not matter, while there is mail.
	all := []api.Value{val(1, none), val(1, 1)}
	nexts(t, strong(g), between(1, 1, all, mails([]int{1}, nil)), between(2, 1, []api.Value{val(1, 1), val(1, 1)}, mails(nil, []int{1})))
}

// P13.5: there is none: each kind and each Phase, fresh or not, with and without vertices that have no Label.
func TestNoMailBehind(t *testing.T) {
	g := graphOf(2)
	all, one, other, no := []api.Value{val(1, 1), val(0, 0)}, []api.Value{val(1, none), val(0, 0)}, []api.Value{val(1, 1), val(0, none)}, vals(1, 0)
	for _, l := range [][]api.Value{all, one, other, no} {
		nexts(t, dist(0, g), between(6, 0, l, mails(nil, nil)), done(7, 0, l...))
		nexts(t, weak(g), between(6, 0, l, mails(nil, nil)), done(7, 0, l...))
		nexts(t, weak(g), between(6, 0, l, mails([]int{1}, []int{0})), done(7, 0, l...))
		nexts(t, strong(g), between(6, 0, l, mails(nil, nil)), fresh(7, 1, l...))
		nexts(t, strong(g), between(6, 0, l, mails([]int{1}, []int{0})), fresh(7, 1, l...))
	}
	nexts(t, strong(g), fresh(6, 0, all...), fresh(7, 1, all...))
	for _, l := range [][]api.Value{one, other, no} {
		nexts(t, strong(g), between(6, 1, l, mails(nil, nil)), fresh(7, 0, l...))
		nexts(t, strong(g), between(6, 1, l, mails([]int{0}, []int{1})), fresh(7, 0, l...))
		nexts(t, strong(g), fresh(6, 1, l...), fresh(7, 0, l...))
		// The round itself gives the last ones their Label.
		nexts(t, strong(g), between(6, 1, l, mails([]int{1}, []int{0})), done(7, 1, all...))
	}
	nexts(t, strong(g), between(6, 1, all, mails(nil, nil)), done(7, 1, all...))
	nexts(t, strong(g), between(6, 1, all, mails([]int{1}, []int{0})), done(7, 1, all...))
	nexts(t, strong(g), fresh(6, 1, all...), done(7, 1, all...))
	nexts(t, strong(g), fresh(6, 1, vals(0, 1)...), done(7, 1, val(0, 0), val(1, 1)))
	// The Label 0 is one.
	nexts(t, strong(g), between(6, 1, []api.Value{val(none, 0), val(5, 0)}, mails(nil, nil)), done(7, 1, val(none, 0), val(5, 0)))
}

// form: a job of a kind over three vertices, a phase that the kind has, and the kind's greatest number.
type form struct {
	job   api.Job
	phase int
	most  int
}

func forms() []form {
	g := graphOf(3, edge(0, 1, 1), edge(1, 2, 0))
	return []form{
		{dist(1, g), api.Forward, api.MaxDist}, {weak(g), api.Forward, top},
		{strong(g), api.Forward, top}, {strong(g), api.Back, top},
	}
}

// states that may be: fresh, done, and neither with mail and without.
func (f form) states() []api.State {
	l := []api.Value{val(none, none), val(f.most, top), val(0, 0)}
	return []api.State{
		fresh(4, f.phase, l...), done(4, f.phase, l...), between(4, f.phase, l, make([][]int, 3)),
		between(4, f.phase, l, mails([]int{0, 0, 3}, []int{}, []int{0, f.most})),
	}
}

// P13.3: Step.
func TestMayBeStep(t *testing.T) {
	for _, f := range forms() {
		for _, s := range f.states() {
			for _, s.Step = range []int{0, 1, api.MaxStep - 1, api.MaxStep} {
				may(t, f.job, s)
			}
			for _, s.Step = range outside(0, api.MaxStep) {
				mayNot(t, f.job, s)
			}
		}
	}
}

// P13.3: the Phase.
func TestMayBePhase(t *testing.T) {
	for _, f := range forms() {
		for _, s := range f.states() {
			for _, s.Phase = range []int{-1, -2, 2, 3, 256, 1 << 32, 1<<32 + 1, math.MinInt, math.MaxInt} {
				mayNot(t, f.job, s)
			}
			s.Phase = api.Forward
			may(t, f.job, s)
			s.Phase = api.Back
			if f.job.Kind == api.Strong {
				may(t, f.job, s)
			} else {
				mayNot(t, f.job, s)
			}
		}
	}
}

// P13.3: as many Values and lists of Mail as there are vertices.
func TestMayBeLengths(t *testing.T) {
	for _, f := range forms() {
		for _, s := range f.states() {
			for n := range 7 {
				for m := range 7 {
					r := s
					r.Values = slices.Repeat(s.Values, 3)[:n]
					r.Mail = append(slices.Clone(s.Mail), nil, nil, nil, nil)[:m]
					if n == 3 && m == 3 {
						may(t, f.job, r)
					} else {
						mayNot(t, f.job, r)
					}
				}
			}
			r := s
			r.Values, r.Mail = nil, nil
			mayNot(t, f.job, r)
		}
	}
}

// P13.3: each vertex's value.
func TestMayBeValues(t *testing.T) {
	for _, f := range forms() {
		for _, s := range f.states() {
			for v := range 3 {
				plain := s.Values
				s.Values = slices.Clone(plain)
				for _, s.Values[v].A = range outside(none, f.most) {
					mayNot(t, f.job, s)
				}
				s.Values[v].A = 2
				for _, s.Values[v].Label = range outside(none, top) {
					mayNot(t, f.job, s)
				}
				for _, a := range []int{none, 0, 1, f.most - 1, f.most} {
					for _, label := range []int{none, 0, 1, top - 1, top} {
						s.Values[v] = val(a, label)
						may(t, f.job, s)
					}
				}
				s.Values = plain
			}
		}
	}
}

// P13.3: each vertex's mail: its bounds, and that it rises or stays.
func TestMayBeMail(t *testing.T) {
	for _, f := range forms() {
		for v := range 3 {
			s := f.states()[2]
			for _, s.Mail[v] = range mails(nil, []int{}, []int{0}, []int{f.most}, []int{0, f.most}, []int{3, 3, 3}, []int{0, 0, 1, 5, 5, f.most, f.most}) {
				may(t, f.job, s)
			}
			for _, m := range outside(0, f.most) {
				for _, s.Mail[v] = range mails([]int{m}, []int{m, m}, []int{min(m, 4), max(m, 4)}) {
					mayNot(t, f.job, s)
				}
			}
			for _, s.Mail[v] = range mails([]int{1, 0}, []int{0, f.most, f.most - 1}, []int{3, 3, 2}, []int{5, 4, 6}, []int{1, 2, 3, 4, 0}) {
				mayNot(t, f.job, s)
			}
		}
		// Each list rises by itself.
		s := f.states()[2]
		s.Mail = mails([]int{7, 8}, []int{4}, []int{0, 9})
		may(t, f.job, s)
	}
}

// P13.3: distances are no vertices: the bounds of the kinds differ.
func TestMayBeGreatest(t *testing.T) {
	for _, n := range []int{top + 1, 1 << 32, api.MaxWeight, api.MaxDist - 1, api.MaxDist} {
		for _, f := range forms() {
			s, r := between(0, f.phase, vals(n, 0, 0), make([][]int, 3)), between(0, f.phase, vals(0, 0, 0), mails(nil, []int{n}, nil))
			if f.job.Kind == api.Dist {
				may(t, f.job, s)
				may(t, f.job, r)
			} else {
				mayNot(t, f.job, s)
				mayNot(t, f.job, r)
			}
		}
	}
}

// P13.3: just MaxMail numbers, and one more, at one vertex and at many.
func TestMayBeMaxMail(t *testing.T) {
	for _, f := range forms() {
		for v := range 3 {
			s := f.states()[2]
			s.Mail[v] = make([]int, api.MaxMail)
			may(t, f.job, s)
			s.Mail[v] = make([]int, api.MaxMail+1)
			mayNot(t, f.job, s)
			s.Mail[v] = make([]int, 3*api.MaxMail)
			mayNot(t, f.job, s)
			for w := range 3 {
				if w != v {
					s.Mail[v], s.Mail[w] = make([]int, api.MaxMail-3), make([]int, 3)
					may(t, f.job, s)
					s.Mail[w] = make([]int, 4)
					mayNot(t, f.job, s)
					s.Mail[w] = nil
				}
			}
		}
		n := api.MaxVertices
		f.job.Graph = graphOf(n)
		s := between(0, f.phase, slices.Repeat(vals(0), n), slices.Repeat(mails(make([]int, api.MaxMail/n)), n))
		may(t, f.job, s)
		s.Mail[top] = make([]int, api.MaxMail/n+1)
		mayNot(t, f.job, s)
		s.Mail[top], s.Mail[0] = s.Mail[0], s.Mail[top]
		mayNot(t, f.job, s)
	}
}

// P13.3: not both Fresh and Done, and no mail with either.
func TestMayBeFreshDone(t *testing.T) {
	for _, f := range forms() {
		for _, s := range f.states() {
			s.Fresh, s.Done = true, true
			mayNot(t, f.job, s)
		}
		for v := range 3 {
			for _, l := range mails([]int{0}, []int{1, 2}, make([]int, api.MaxMail), make([]int, api.MaxMail+1)) {
				for _, s := range f.states()[:2] {
					s.Mail[v] = l
					mayNot(t, f.job, s)
				}
			}
			for _, s := range f.states()[:2] {
				s.Mail[v] = []int{}
				may(t, f.job, s)
			}
		}
	}
}

// P13.7
func TestAnswer(t *testing.T) {
	g := graphOf(3, edge(0, 1, 4))
	l := []api.Value{val(5, 2), val(none, top), val(top, none)}
	answers(t, dist(0, g), done(3, api.Forward, l...), 5, none, top)
	answers(t, dist(0, g), done(3, api.Forward, vals(0, api.MaxDist, none)...), 0, api.MaxDist, none)
	answers(t, weak(g), done(0, api.Forward, l...), 5, none, top)
	answers(t, strong(g), done(api.MaxStep, api.Back, l...), 2, top, none)
	answers(t, strong(g), done(3, api.Forward, l...), 2, top, none)
	answers(t, strong(g), done(3, api.Back, vals(0, 0, 0)...), none, none, none)
}

// P13.7: a state that is not done; one that may not be is refused ahead of that.
func TestAnswerWait(t *testing.T) {
	for _, f := range forms() {
		for i, s := range f.states() {
			if i != 1 {
				noAnswer(t, f.job, s, api.ErrWait)
			}
			s.Step = -1
			noAnswer(t, f.job, s, api.ErrState)
		}
		noAnswer(t, f.job, api.State{}, api.ErrState)
	}
}

// P13.4, P13.6: ErrOver, wherever it comes, and just below it.
func TestRunOver(t *testing.T) {
	heavy := chain(6, api.MaxWeight)
	noRun(t, dist(0, graphOf(6, heavy...)), api.ErrOver)
	runs(t, dist(1, graphOf(6, heavy...)), done(5, api.Forward, vals(none, 0, 1<<40, 2<<40, 3<<40, api.MaxDist)...))
	runs(t, dist(0, graphOf(5, chain(5, api.MaxWeight)...)), done(5, api.Forward, vals(0, 1<<40, 2<<40, 3<<40, api.MaxDist)...))
	noRun(t, dist(0, graphOf(5, append(chain(5, api.MaxWeight), edge(4, 4, 1))...)), api.ErrOver)
	noRun(t, dist(0, graphOf(5, append(chain(5, api.MaxWeight), edge(4, 0, 1))...)), api.ErrOver)
	runs(t, dist(0, graphOf(5, append(chain(5, api.MaxWeight), edge(4, 4, 0))...)), done(6, api.Forward, vals(0, 1<<40, 2<<40, 3<<40, api.MaxDist)...))
	for kind := api.Weak; kind <= api.Strong; kind++ {
		if s, e := Run(api.Job{Graph: graphOf(6, heavy...), Kind: kind}); e != api.OK || !s.Done {
			t.Errorf("Run of kind %d = %v %d", kind, s, e)
		}
	}
}

// P13.6: as many vertices and edges as may be; of Strong as many rounds as a chain needs: each vertex is its own answer, one by one.
func TestRunGreatest(t *testing.T) {
	n := api.MaxVertices
	l := chain(n, 1)
	l = slices.Concat(l, l, l, many(api.MaxEdges-3*len(l)))
	rising := make([]int, n)
	for v := range rising {
		rising[v] = v
	}
	settles(t, dist(0, graphOf(n, l...)), n, rising...)
	settles(t, dist(top, graphOf(n, l...)), 1, append(slices.Repeat([]int{none}, n-1), 0)...)
	settles(t, weak(graphOf(n, l...)), n+1, make([]int, n)...)
	// For each vertex v there are n - v rounds Forward, and 2 Back: one vertex gets its Label, and one hears of it.
	settles(t, strong(graphOf(n, l...)), n*(n+1)/2+2*n, rising...)
	settles(t, strong(graphOf(n, append(chain(n, 0), edge(top, 0, 0))...)), (n+1)+(n+1), make([]int, n)...)
	settles(t, weak(graphOf(n)), 1, rising...)
	settles(t, strong(graphOf(n)), 2, rising...)
}

// settles: Run is done at that Step, and Answer tells this.
func settles(t *testing.T, j api.Job, step int, want ...int) {
	t.Helper()
	s, e := Run(j)
	if e != api.OK || !s.Done || s.Step != step {
		t.Errorf("Run %s = %s %d, want Step %d", tell(j), tell(s), e, step)
	}
	answers(t, j, s, want...)
}

// die: numbers that look drawn, the same each time.
type die uint64

func (d *die) n(most int) int {
	*d = *d*6364136223846793005 + 1442695040888963407
	return int(uint64(*d>>33) % uint64(most))
}

// pick one of some numbers.
func (d *die) pick(l ...int) int { return l[d.n(len(l))] }

// job that looks drawn, with weights below or at such a bound.
func (d *die) job(n, edges, weight int) api.Job {
	j := api.Job{Graph: api.Graph{N: n}, Kind: 1 + d.n(3), Source: d.n(n)}
	for range d.n(edges + 1) {
		j.Graph.Edges = append(j.Graph.Edges, edge(d.n(n), d.n(n), d.pick(0, 1, weight/2, weight, weight, weight)))
	}
	return j
}

// state of a job, that may be or nearly so.
func (d *die) state(j api.Job) api.State {
	most := top
	if j.Kind == api.Dist {
		most = d.pick(9, api.MaxDist)
	}
	s := api.State{Step: d.pick(0, 1, 500, api.MaxStep-1, api.MaxStep), Phase: d.pick(0, 0, j.Kind/api.Strong)}
	switch d.n(4) {
	case 0:
		s.Fresh = true
	case 1:
		s.Done = true
	}
	for range j.Graph.N {
		s.Values = append(s.Values, val(d.pick(none, d.n(4), d.n(most+1), most), d.pick(none, none, none, d.n(4), top)))
		var l []int
		for range d.n(4) {
			l = append(l, d.pick(d.n(4), d.n(4), d.n(most+1), most-d.n(3)))
		}
		slices.Sort(l)
		if s.Fresh || s.Done {
			l = nil
		}
		s.Mail = append(s.Mail, l)
	}
	if d.n(3) == 0 {
		d.spoil(j, &s)
	}
	return s
}

// spoil one thing of a state: mostly it may not be, then.
func (d *die) spoil(j api.Job, s *api.State) {
	v := d.n(j.Graph.N)
	switch d.n(9) {
	case 0:
		s.Step = d.pick(-1, api.MaxStep+1)
	case 1:
		s.Phase = d.pick(-1, 1, 2)
	case 2:
		s.Values = s.Values[1:]
	case 3:
		s.Mail = append(s.Mail, nil)
	case 4:
		s.Values[v].A = d.pick(-2, top+1, api.MaxDist+1)
	case 5:
		s.Values[v].Label = d.pick(-2, top+1)
	case 6:
		s.Mail[v] = append(s.Mail[v], d.pick(-1, 0, 1, top+1, api.MaxDist, api.MaxDist+1))
	case 7:
		s.Fresh = true
	case 8:
		s.Done = true
	}
}

// modelMayBe: P13.3, word by word.
func modelMayBe(j api.Job, s api.State) bool {
	most, phases := top, 1
	if j.Kind == api.Dist {
		most = api.MaxDist
	}
	if j.Kind == api.Strong {
		phases = 2
	}
	ok := 0 <= s.Step && s.Step <= api.MaxStep && 0 <= s.Phase && s.Phase < phases && len(s.Values) == j.Graph.N && len(s.Mail) == j.Graph.N
	for _, x := range s.Values {
		ok = ok && none <= x.A && x.A <= most && none <= x.Label && x.Label <= top
	}
	all := 0
	for _, l := range s.Mail {
		all += len(l)
		for i, m := range l {
			ok = ok && 0 <= m && m <= most && (i == 0 || l[i-1] <= m)
		}
	}
	return ok && all <= api.MaxMail && !(s.Fresh && s.Done) && !((s.Fresh || s.Done) && all > 0)
}

// model of Next: P13.4 and P13.5, word by word, vertex by vertex.
func model(j api.Job, s api.State) (api.State, api.Errno) {
	switch {
	case !modelMayBe(j, s):
		return api.State{}, api.ErrState
	case s.Done:
		return s, api.OK
	case s.Step == api.MaxStep:
		return api.State{}, api.ErrFull
	}
	n := j.Graph.N
	next := api.State{Step: s.Step + 1, Phase: s.Phase, Values: slices.Clone(s.Values), Mail: make([][]int, n)}
	out, in, _ := prog.Ways(j.Kind, s.Phase)
	mail, open := 0, 0
	for v := range n {
		says := false
		if s.Fresh || len(s.Mail[v]) != 0 {
			next.Values[v], says, _ = prog.Wake(j.Kind, v, j.Source, s.Values[v], s.Phase, s.Fresh, s.Mail[v])
		}
		if next.Values[v].Label == none {
			open++
		}
		for _, l := range j.Graph.Edges {
			ends := map[bool][]int{}
			ends[out && l.From == v] = append(ends[out && l.From == v], l.To)
			ends[in && l.To == v] = append(ends[in && l.To == v], l.From)
			for _, to := range ends[true] {
				if !says {
					continue
				}
				m, e := prog.Say(j.Kind, next.Values[v], s.Phase, l.Weight)
				if e != api.OK {
					return api.State{}, e
				}
				at, _ := slices.BinarySearch(next.Mail[to], m)
				next.Mail[to] = slices.Insert(next.Mail[to], at, m)
				mail++
			}
		}
	}
	if mail == 0 && j.Kind == api.Strong && (s.Phase == api.Forward || open > 0) {
		next.Phase, next.Fresh = 1-s.Phase, true
	} else if mail == 0 {
		next.Done = true
	}
	return next, api.OK
}

// P13.3 to P13.5, P13.7: drawn states, held against the words.
func TestNextModel(t *testing.T) {
	d := die(13)
	seen := map[api.Errno]int{}
	for range 60000 {
		j := d.job(1+d.n(5), 9, d.pick(5, api.MaxWeight))
		s := d.state(j)
		want, f := model(j, s)
		got, e := Next(j, s)
		if e != f || !same(got, want) {
			t.Fatalf("Next %v %v = %v %d, want %v %d", j, s, got, e, want, f)
		}
		seen[e]++
		l, e := Answer(j, s)
		switch {
		case f == api.ErrState:
			want.Values = nil
		case !s.Done:
			f, want.Values = api.ErrWait, nil
		}
		plain := func(x api.Value, a int) bool {
			return a == x.A && j.Kind != api.Strong || a == x.Label && j.Kind == api.Strong
		}
		if e != f || !slices.EqualFunc(want.Values, l, plain) {
			t.Fatalf("Answer %v %v = %v %d, want %d", j, s, l, e, f)
		}
	}
	for _, e := range []api.Errno{api.OK, api.ErrState, api.ErrFull, api.ErrOver} {
		if seen[e] < 100 {
			t.Errorf("%d was drawn %d times", e, seen[e])
		}
	}
}

// told by paths alone.
func told(j api.Job) []int {
	var l []int
	switch j.Kind {
	case api.Dist:
		l, _ = paths.Dist(j.Graph, j.Source)
	case api.Weak:
		l, _ = paths.Weak(j.Graph)
	case api.Strong:
		l, _ = paths.Strong(j.Graph)
	}
	return l
}

// asPaths tell: Run ends as Next by Next does, and its answer is what paths tell, but where ErrOver is told.
func asPaths(t *testing.T, j api.Job) api.Errno {
	t.Helper()
	s, e := Begin(j)
	for e == api.OK && !s.Done {
		want, f := model(j, s)
		s, e = Next(j, s)
		if e != f || !same(s, want) {
			t.Fatalf("%s: Next = %s %d, want %s %d", tell(j), tell(s), e, tell(want), f)
		}
	}
	r, f := Run(j)
	if e != f || !same(r, s) {
		t.Fatalf("Run %s = %s %d, want %s %d", tell(j), tell(r), f, tell(s), e)
	}
	if e == api.ErrOver && j.Kind == api.Dist {
		return e
	}
	if e != api.OK {
		t.Fatalf("Run %s: %d", tell(j), e)
	}
	answers(t, j, r, told(j)...)
	return e
}

// P13.6: all graphs of up to three vertices without edges that stand twice.
func TestRunSmall(t *testing.T) {
	for n := range 4 {
		for bits := range 1 << (n * n) {
			g := graphOf(n)
			for i := range n * n {
				if bits>>i&1 == 1 {
					g.Edges = append(g.Edges, edge(i/n, i%n, (i*5+bits)%7))
				}
			}
			asPaths(t, weak(g))
			asPaths(t, strong(g))
			for source := range n {
				asPaths(t, dist(source, g))
			}
		}
	}
}

// P13.6: drawn graphs, small and great, light and heavy.
func TestRunDrawn(t *testing.T) {
	d := die(6)
	over := 0
	for i := range 3000 {
		n := 1 + d.n(9)
		j := d.job(n, 3*n, d.pick(9, api.MaxWeight))
		if i%2 == 0 { // long ways, some of them too long
			j.Graph.Edges = append(j.Graph.Edges[:len(j.Graph.Edges)/4], chain(n, d.pick(api.MaxWeight/2, api.MaxWeight))...)
			j.Source = d.n(min(n, 2))
		}
		if asPaths(t, j) == api.ErrOver {
			over++
		}
	}
	if over < 50 || over > 1000 {
		t.Errorf("ErrOver was told %d times", over)
	}
	for range 40 {
		n := 100 + d.n(101)
		asPaths(t, d.job(n, d.pick(n, 2*n, api.MaxEdges), d.pick(0, 9, 1<<33)))
	}
}

// roomyJob: the job again, its edges within a longer list, to see whether the list or what lies behind it is changed.
func roomyJob(j api.Job) api.Job {
	l := append(slices.Clone(j.Graph.Edges), slices.Repeat([]api.Edge{edge(-7, -7, -7)}, 5)...)
	j.Graph.Edges = l[:len(j.Graph.Edges)]
	return j
}

// roomy: the state again, each of its lists within a longer one.
func roomy(s api.State) api.State {
	r := s
	r.Values = append(slices.Clone(s.Values), slices.Repeat(vals(-77), 5)...)[:len(s.Values)]
	r.Mail = nil
	for _, l := range s.Mail {
		r.Mail = append(r.Mail, append(slices.Clone(l), -77, -77, -77, -77)[:len(l)])
	}
	r.Mail = append(r.Mail, []int{-78}, []int{-79})[:len(s.Mail)]
	return r
}

// whole: all that a state's lists have, their spare room too, as a text.
func whole(s api.State) string {
	var b strings.Builder
	fmt.Fprint(&b, s.Step, s.Phase, s.Fresh, s.Done, s.Values[:cap(s.Values)])
	for _, l := range s.Mail[:cap(s.Mail)] {
		fmt.Fprint(&b, l[:cap(l)])
	}
	return b.String()
}

func wholeJob(j api.Job) string { return fmt.Sprint(j, j.Graph.Edges[:cap(j.Graph.Edges)]) }

func spoilList(l []int) {
	l = l[:cap(l)]
	for i := range l {
		l[i] = -99
	}
}

// spoilState: its lists with their spare room; nothing else may change by it.
func spoilState(s api.State) {
	values, mail := s.Values[:cap(s.Values)], s.Mail[:cap(s.Mail)]
	for i := range values {
		values[i] = val(-99, -99)
	}
	for i, l := range mail {
		spoilList(l)
		mail[i] = []int{-98}
	}
}

// noneShared: each list of mail of an answer can be spoilt, its spare room too, without a change to the others.
func noneShared(t *testing.T, s api.State) {
	t.Helper()
	for i, l := range s.Mail {
		others := s
		others.Mail = slices.Delete(slices.Clone(s.Mail), i, i+1)
		before := whole(others)
		spoilList(l)
		if whole(others) != before {
			t.Fatalf("the mail of %d in %s shares memory", i, tell(s))
		}
	}
}

// P13.4, P13.7: what is handed in stays, its spare room too, and what is answered is new memory; refused or not.
func TestNextMemory(t *testing.T) {
	d := die(4)
	for range 3000 {
		j := roomyJob(d.job(1+d.n(5), 9, d.pick(5, api.MaxWeight)))
		s := roomy(d.state(j))
		job, state := wholeJob(j), whole(s)
		got, _ := Next(j, s)
		again, _ := Next(j, s)
		kept := whole(again)
		spoilState(got)
		l, _ := Answer(j, s)
		other, _ := Answer(j, s)
		answer := slices.Clone(other)
		spoilList(l)
		if wholeJob(j) != job || whole(s) != state {
			t.Fatalf("%s: an argument was changed, or shares memory with an answer", state)
		}
		if whole(again) != kept || !slices.Equal(other, answer) {
			t.Fatalf("%s: two answers share memory", state)
		}
		noneShared(t, again)
	}
}

// P13.1, P13.2, P13.6: the same of the calls that are handed a job alone.
func TestJobMemory(t *testing.T) {
	d := die(5)
	for i := range 300 {
		j := d.job(1+d.n(5), 9, 5)
		if i%5 == 0 {
			j.Kind = 4
		}
		j = roomyJob(j)
		job := wholeJob(j)
		Check(j)
		for _, call := range []func(j api.Job) (api.State, api.Errno){Begin, Run} {
			got, _ := call(j)
			again, _ := call(j)
			kept := whole(again)
			spoilState(got)
			if wholeJob(j) != job {
				t.Fatalf("%s was changed, or shares memory with an answer", job)
			}
			if whole(again) != kept {
				t.Fatalf("%s: two answers share memory", job)
			}
			noneShared(t, again)
		}
	}
}
