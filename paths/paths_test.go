package paths

import (
	"fmt"
	"math"
	"slices"
	"testing"

	"paceline/api"
)

const top = api.MaxVertices - 1 // the greatest vertex

// edge: one from a vertex to another one, with its weight.
func edge(from, to, weight int) api.Edge {
	return api.Edge{From: from, To: to, Weight: weight}
}

func graphOf(n int, l ...api.Edge) api.Graph { return api.Graph{N: n, Edges: l} }

// many: so many edges from the first vertex to itself.
func many(n int) []api.Edge { return make([]api.Edge, n) }

// tell in short what was handed in or answered: lists may be long.
func tell(x any) string { return fmt.Sprintf("%.300s", fmt.Sprint(x)) }

func dists(t *testing.T, g api.Graph, source int, want ...int) {
	t.Helper()
	if got, e := Dist(g, source); e != api.OK || !slices.Equal(got, want) {
		t.Errorf("Dist %s %d = %s %d, want %s", tell(g), source, tell(got), e, tell(want))
	}
}

func weak(t *testing.T, g api.Graph, want ...int) {
	t.Helper()
	if got, e := Weak(g); e != api.OK || !slices.Equal(got, want) {
		t.Errorf("Weak %s = %s %d, want %s", tell(g), tell(got), e, tell(want))
	}
}

func reaches(t *testing.T, g api.Graph, v int, want ...bool) {
	t.Helper()
	if got, e := Reach(g, v); e != api.OK || !slices.Equal(got, want) {
		t.Errorf("Reach %s %d = %s %d, want %s", tell(g), v, tell(got), e, tell(want))
	}
}

func strong(t *testing.T, g api.Graph, want ...int) {
	t.Helper()
	if got, e := Strong(g); e != api.OK || !slices.Equal(got, want) {
		t.Errorf("Strong %s = %s %d, want %s", tell(g), tell(got), e, tell(want))
	}
}

// noVertex: Dist and Reach refuse v with that error, and answer no element.
func noVertex(t *testing.T, g api.Graph, v int, want api.Errno) {
	t.Helper()
	if got, e := Dist(g, v); e != want || len(got) != 0 {
		t.Errorf("Dist %s %d = %s %d, want none, %d", tell(g), v, tell(got), e, want)
	}
	if got, e := Reach(g, v); e != want || len(got) != 0 {
		t.Errorf("Reach %s %d = %s %d, want none, %d", tell(g), v, tell(got), e, want)
	}
}

// allRefuse: each call refuses the graph with that error, and answers no element; Dist and Reach at any vertex.
func allRefuse(t *testing.T, g api.Graph, want api.Errno) {
	t.Helper()
	for _, v := range []int{math.MinInt, -1, 0, 1, g.N - 1, g.N, math.MaxInt} {
		noVertex(t, g, v, want)
	}
	if got, e := Weak(g); e != want || len(got) != 0 {
		t.Errorf("Weak %s = %s %d, want none, %d", tell(g), tell(got), e, want)
	}
	if got, e := Strong(g); e != want || len(got) != 0 {
		t.Errorf("Strong %s = %s %d, want none, %d", tell(g), tell(got), e, want)
	}
}

// same: so many times the same.
func same[T any](n int, x T) []T {
	l := make([]T, n)
	for i := range l {
		l[i] = x
	}
	return l
}

// rising: from 0 on, so many.
func rising(n int) []int {
	l := make([]int, n)
	for i := range l {
		l[i] = i
	}
	return l
}

// chain of all vertices, each with an edge to the next one, of that weight.
func chain(n, weight int) []api.Edge {
	var l []api.Edge
	for v := range n - 1 {
		l = append(l, edge(v, v+1, weight))
	}
	return l
}

// turned: each edge the other way.
func turned(l []api.Edge) []api.Edge {
	var out []api.Edge
	for _, e := range l {
		out = append(out, edge(e.To, e.From, e.Weight))
	}
	return out
}

// P12.1
func TestDist(t *testing.T) {
	g := graphOf(6, edge(0, 1, 7), edge(0, 2, 1), edge(2, 1, 3), edge(1, 3, 2), edge(3, 0, 5), edge(4, 0, 1))
	dists(t, g, 0, 0, 4, 1, 6, api.None, api.None)
	dists(t, g, 1, 7, 0, 8, 2, api.None, api.None)
	dists(t, g, 2, 10, 3, 0, 5, api.None, api.None)
	dists(t, g, 3, 5, 9, 6, 0, api.None, api.None)
	dists(t, g, 4, 1, 5, 2, 7, 0, api.None)
	dists(t, g, 5, api.None, api.None, api.None, api.None, api.None, 0)
}

// P12.1: a path with more edges may be shorter, wherever its edges stand; of the same sum either will do.
func TestDistMoreEdges(t *testing.T) {
	dists(t, graphOf(4, edge(0, 3, 10), edge(0, 1, 3), edge(1, 2, 3), edge(2, 3, 3)), 0, 0, 3, 6, 9)
	dists(t, graphOf(4, edge(2, 3, 3), edge(1, 2, 3), edge(0, 1, 3), edge(0, 3, 10)), 0, 0, 3, 6, 9)
	dists(t, graphOf(4, edge(0, 3, 9), edge(0, 1, 3), edge(1, 2, 3), edge(2, 3, 3)), 0, 0, 3, 6, 9)
	dists(t, graphOf(4, edge(0, 3, 8), edge(0, 1, 3), edge(1, 2, 3), edge(2, 3, 3)), 0, 0, 3, 6, 8)
	dists(t, graphOf(5, edge(4, 0, 100), edge(4, 3, 1), edge(3, 2, 1), edge(2, 1, 1), edge(1, 0, 1)), 4, 4, 3, 2, 1, 0)
	// What lies behind the vertex is nearer by then, too.
	dists(t, graphOf(5, edge(0, 1, 10), edge(1, 4, 1), edge(0, 2, 1), edge(2, 3, 1), edge(3, 1, 1)), 0, 0, 3, 1, 2, 4)
}

// P12.1: of several edges between two vertices the lightest counts; an edge to itself brings nothing.
func TestDistAlike(t *testing.T) {
	for _, l := range [][]int{{5, 2, 9}, {2, 5, 9}, {9, 5, 2}, {2, 2, 2}, {9, 2, 2}} {
		dists(t, graphOf(2, edge(0, 1, l[0]), edge(0, 1, l[1]), edge(0, 1, l[2])), 0, 0, 2)
		dists(t, graphOf(2, edge(0, 1, l[0]), edge(0, 1, l[1]), edge(0, 1, l[2])), 1, api.None, 0)
	}
	for _, w := range []int{0, 1, api.MaxWeight} {
		dists(t, graphOf(1, edge(0, 0, w)), 0, 0)
		dists(t, graphOf(2, edge(0, 0, w), edge(0, 1, 4), edge(1, 1, w)), 0, 0, 4)
		dists(t, graphOf(2, edge(1, 1, w)), 0, 0, api.None)
	}
}

// P12.1: weights 0 and MaxWeight; a sum may be above MaxDist.
func TestDistWeights(t *testing.T) {
	dists(t, graphOf(3, edge(0, 1, 0), edge(1, 2, 0), edge(2, 0, 0)), 1, 0, 0, 0)
	dists(t, graphOf(3, edge(0, 2, api.MaxWeight), edge(0, 1, 0), edge(1, 2, api.MaxWeight-1)), 0, 0, 0, api.MaxWeight-1)
	dists(t, graphOf(2, edge(0, 1, api.MaxWeight)), 0, 0, api.MaxWeight)
	dists(t, graphOf(6, chain(6, api.MaxWeight)...), 0, 0, 1<<40, 2<<40, 3<<40, api.MaxDist, 5<<40)
	// The distance 0 is no None.
	dists(t, graphOf(4, edge(0, 1, 0), edge(2, 3, 0)), 0, 0, 0, api.None, api.None)
}

// P12.1: as many vertices and edges as may be.
func TestDistGreatest(t *testing.T) {
	var far, back []int
	for v := range api.MaxVertices {
		far = append(far, v<<40)
		back = append(back, (top-v)<<40)
	}
	l := slices.Concat(chain(api.MaxVertices, api.MaxWeight), turned(chain(api.MaxVertices, api.MaxWeight)))
	l = append(l, many(api.MaxEdges-len(l))...)
	dists(t, graphOf(api.MaxVertices, l...), 0, far...)
	dists(t, graphOf(api.MaxVertices, l...), top, back...)
	dists(t, graphOf(1, many(api.MaxEdges)...), 0, 0)
	lone := same(api.MaxVertices, api.None)
	lone[top] = 0
	dists(t, graphOf(api.MaxVertices), top, lone...)
}

// P12.2: the chapter's example is the first one.
func TestWeak(t *testing.T) {
	weak(t, graphOf(3, edge(0, 1, 0), edge(1, 2, 0), edge(2, 1, 0)), 0, 0, 0)
	weak(t, graphOf(7, edge(5, 2, 1), edge(6, 3, 1), edge(3, 1, 1), edge(2, 4, 1)), 0, 1, 2, 1, 2, 2, 1)
	weak(t, graphOf(3, edge(1, 2, 8)), 0, 1, 1)
	weak(t, graphOf(3, edge(2, 1, 8)), 0, 1, 1)
}

// P12.2: whichever way edges go.
func TestWeakWays(t *testing.T) {
	weak(t, graphOf(3, edge(0, 1, 0), edge(2, 1, 0)), 0, 0, 0)
	weak(t, graphOf(3, edge(1, 0, 0), edge(1, 2, 0)), 0, 0, 0)
	weak(t, graphOf(3, edge(2, 0, 0), edge(2, 1, 0)), 0, 0, 0)
	weak(t, graphOf(3, edge(0, 2, 0), edge(1, 2, 0)), 0, 0, 0)
	weak(t, graphOf(5, edge(4, 3, 0), edge(2, 3, 0), edge(2, 1, 0)), 0, 1, 1, 1, 1)
	weak(t, graphOf(6, edge(5, 4, 0), edge(3, 2, 0), edge(3, 5, 0), edge(1, 0, 0), edge(4, 1, 0)), 0, 0, 0, 0, 0, 0)
}

// P12.2: edges that stand twice or lead to the vertex itself join nothing else.
func TestWeakAlike(t *testing.T) {
	weak(t, graphOf(3, edge(1, 1, 0), edge(2, 2, api.MaxWeight)), 0, 1, 2)
	weak(t, graphOf(4, edge(3, 1, 2), edge(3, 1, 2), edge(1, 3, 5), edge(3, 3, 0)), 0, 1, 2, 1)
}

// P12.2: as many vertices and edges as may be.
func TestWeakGreatest(t *testing.T) {
	n := api.MaxVertices
	l := chain(n, api.MaxWeight)
	weak(t, graphOf(n, slices.Concat(l, l, l)...), make([]int, n)...)
	weak(t, graphOf(n, turned(l)...), make([]int, n)...)
	slices.Reverse(l)
	weak(t, graphOf(n, l...), make([]int, n)...)
	weak(t, graphOf(n, turned(l)...), make([]int, n)...)
	weak(t, graphOf(n, many(api.MaxEdges)...), rising(n)...)
	want := rising(n)
	want[top] = 0
	weak(t, graphOf(n, append(many(api.MaxEdges-1), edge(top, 0, 0))...), want...)
}

// P12.3
func TestReach(t *testing.T) {
	g := graphOf(6, edge(0, 1, 7), edge(0, 2, 0), edge(1, 3, api.MaxWeight), edge(3, 0, 5), edge(4, 0, 1))
	for v := range 4 {
		want := []bool{true, true, true, true, false, false}
		if v == 2 {
			want = []bool{false, false, true, false, false, false}
		}
		reaches(t, g, v, want...)
	}
	reaches(t, g, 4, true, true, true, true, true, false)
	reaches(t, g, 5, false, false, false, false, false, true)
}

// P12.3: not against an edge's way; a vertex reaches itself, with an edge to itself or without.
func TestReachWays(t *testing.T) {
	reaches(t, graphOf(2, edge(0, 1, 0)), 0, true, true)
	reaches(t, graphOf(2, edge(0, 1, 0)), 1, false, true)
	reaches(t, graphOf(2, edge(1, 0, 0)), 0, true, false)
	reaches(t, graphOf(2, edge(1, 0, 0)), 1, true, true)
	reaches(t, graphOf(3, edge(0, 1, 0), edge(2, 1, 0)), 0, true, true, false)
	reaches(t, graphOf(3, edge(1, 1, 0), edge(1, 1, 9), edge(1, 2, 4), edge(1, 2, 4)), 1, false, true, true)
	reaches(t, graphOf(3, edge(1, 1, 0)), 0, true, false, false)
	reaches(t, graphOf(4, edge(2, 3, 0), edge(1, 2, 0), edge(0, 1, 0)), 0, true, true, true, true)
}

// P12.3: as many vertices and edges as may be.
func TestReachGreatest(t *testing.T) {
	n := api.MaxVertices
	l := chain(n, api.MaxWeight)
	l = slices.Concat(l, l, l)
	first, last := make([]bool, n), make([]bool, n)
	first[0], last[top] = true, true
	reaches(t, graphOf(n, l...), 0, same(n, true)...)
	reaches(t, graphOf(n, l...), top, last...)
	reaches(t, graphOf(n, turned(l)...), 0, first...)
	reaches(t, graphOf(n, turned(l)...), top, same(n, true)...)
	reaches(t, graphOf(n, many(api.MaxEdges)...), 0, first...)
	reaches(t, graphOf(n, many(api.MaxEdges)...), top, last...)
}

// P12.4: the chapter's example is the first one.
func TestStrong(t *testing.T) {
	strong(t, graphOf(3, edge(0, 1, 0), edge(1, 2, 0), edge(2, 1, 0)), 0, 1, 1)
	strong(t, graphOf(4, edge(0, 1, 0), edge(1, 2, 0), edge(2, 3, 0), edge(3, 0, 0)), 0, 0, 0, 0)
	strong(t, graphOf(4, edge(0, 1, 0), edge(1, 2, 0), edge(2, 3, 0)), 0, 1, 2, 3)
	strong(t, graphOf(4, edge(3, 2, 0), edge(2, 1, 0), edge(1, 0, 0)), 0, 1, 2, 3)
	// Two circles with an edge between them, this way and that way.
	strong(t, graphOf(4, edge(0, 2, 0), edge(2, 0, 0), edge(1, 3, 0), edge(3, 1, 0), edge(0, 1, 0)), 0, 1, 0, 1)
	strong(t, graphOf(4, edge(0, 2, 0), edge(2, 0, 0), edge(1, 3, 0), edge(3, 1, 0), edge(3, 2, 0)), 0, 1, 0, 1)
	strong(t, graphOf(4, edge(0, 2, 0), edge(2, 0, 0), edge(1, 3, 0), edge(3, 1, 0), edge(3, 2, 0), edge(0, 1, 0)), 0, 0, 0, 0)
	// Two circles with a vertex in common.
	strong(t, graphOf(5, edge(3, 1, 0), edge(1, 3, 0), edge(3, 4, 0), edge(4, 3, 0), edge(0, 1, 0), edge(4, 2, 0)), 0, 1, 2, 1, 1)
}

// P12.4: to be reached is not enough, nor to reach; lower vertices on one side alone do not count.
func TestStrongOneWay(t *testing.T) {
	strong(t, graphOf(3, edge(0, 1, 0), edge(0, 2, 0)), 0, 1, 2)
	strong(t, graphOf(3, edge(1, 0, 0), edge(2, 0, 0)), 0, 1, 2)
	strong(t, graphOf(4, edge(2, 3, 0), edge(3, 2, 0), edge(2, 0, 0), edge(1, 3, 0)), 0, 1, 2, 2)
	// One vertex that reaches a second, and a third that both reach: joined, but no two both ways.
	strong(t, graphOf(3, edge(0, 1, 0), edge(1, 2, 0), edge(0, 2, 0)), 0, 1, 2)
}

// P12.4: edges that stand twice or lead to the vertex itself.
func TestStrongAlike(t *testing.T) {
	strong(t, graphOf(2, edge(0, 0, 0), edge(1, 1, api.MaxWeight)), 0, 1)
	strong(t, graphOf(2, edge(0, 1, 1), edge(0, 1, 1), edge(0, 1, 2)), 0, 1)
	strong(t, graphOf(3, edge(1, 2, 1), edge(1, 2, 1), edge(2, 1, 0), edge(2, 1, api.MaxWeight)), 0, 1, 1)
}

// P12.4: as many vertices and edges as may be.
func TestStrongGreatest(t *testing.T) {
	n := api.MaxVertices
	l := chain(n, api.MaxWeight)
	strong(t, graphOf(n, slices.Concat(l, l, l)...), rising(n)...)
	strong(t, graphOf(n, slices.Concat(turned(l), turned(l))...), rising(n)...)
	strong(t, graphOf(n, append(l, edge(top, 0, 0))...), make([]int, n)...)
	both := slices.Concat(l, turned(l))
	strong(t, graphOf(n, append(both, many(api.MaxEdges-len(both))...)...), make([]int, n)...)
	// Of the circle without the first vertex the second one is the least.
	want := same(n, 1)
	want[0] = 0
	strong(t, graphOf(n, append(l, edge(top, 1, 0))...), want...)
	strong(t, graphOf(n, many(api.MaxEdges)...), rising(n)...)
}

// P12.1 to P12.4: without vertices, without edges, with one vertex.
func TestLittle(t *testing.T) {
	for _, g := range []api.Graph{{}, {Edges: []api.Edge{}}, {Edges: many(3)[:0]}} {
		weak(t, g)
		strong(t, g)
		for _, v := range []int{0, 1, -1, math.MinInt, math.MaxInt} {
			noVertex(t, g, v, api.ErrRange)
		}
	}
	for _, l := range [][]api.Edge{nil, {}, {edge(0, 0, 0)}, {edge(0, 0, api.MaxWeight), edge(0, 0, 3)}} {
		dists(t, graphOf(1, l...), 0, 0)
		weak(t, graphOf(1, l...), 0)
		reaches(t, graphOf(1, l...), 0, true)
		strong(t, graphOf(1, l...), 0)
	}
	dists(t, graphOf(3), 0, 0, api.None, api.None)
	dists(t, graphOf(3), 2, api.None, api.None, 0)
	weak(t, graphOf(3), 0, 1, 2)
	reaches(t, graphOf(3), 0, true, false, false)
	reaches(t, graphOf(3), 2, false, false, true)
	strong(t, graphOf(3), 0, 1, 2)
	weak(t, graphOf(api.MaxVertices), rising(api.MaxVertices)...)
	strong(t, graphOf(api.MaxVertices), rising(api.MaxVertices)...)
}

// P12.1, P12.3: a source or v that is not inside.
func TestVertexRange(t *testing.T) {
	for _, n := range []int{0, 1, 2, 3, top, api.MaxVertices} {
		for _, v := range []int{-1, -2, -n, -n - 1, math.MinInt, n, n + 1, 2 * n, 1 << 32, math.MinInt + n, math.MaxInt} {
			if v >= 0 && v < n {
				continue
			}
			noVertex(t, graphOf(n), v, api.ErrRange)
			noVertex(t, graphOf(n, chain(n, 1)...), v, api.ErrRange)
		}
		for _, v := range []int{0, n - 1} {
			if n == 0 {
				continue
			}
			if _, e := Dist(graphOf(n), v); e != api.OK {
				t.Errorf("Dist of %d vertices, %d: %d", n, v, e)
			}
			if _, e := Reach(graphOf(n), v); e != api.OK {
				t.Errorf("Reach of %d vertices, %d: %d", n, v, e)
			}
		}
	}
}

// P4.1: ErrSize, ahead of all else: of the vertex, and of edges that are outside.
func TestGraphSize(t *testing.T) {
	out := edge(-1, api.MaxVertices, -1)
	for _, n := range []int{-1, -2, math.MinInt, api.MaxVertices + 1, math.MaxInt} {
		allRefuse(t, graphOf(n), api.ErrSize)
		allRefuse(t, graphOf(n, edge(0, 0, 0)), api.ErrSize)
		allRefuse(t, graphOf(n, out), api.ErrSize)
	}
	for _, n := range []int{0, 1, api.MaxVertices} {
		allRefuse(t, graphOf(n, many(api.MaxEdges+1)...), api.ErrSize)
		allRefuse(t, graphOf(n, append(many(api.MaxEdges), out)...), api.ErrSize)
		allRefuse(t, graphOf(n, append([]api.Edge{out}, many(api.MaxEdges)...)...), api.ErrSize)
	}
}

// P4.1: ErrRange, wherever the edge stands, though no path goes along it.
func TestGraphRange(t *testing.T) {
	for _, n := range []int{1, 2, 3, api.MaxVertices} {
		right := edge(n-1, n-1, api.MaxWeight)
		for _, w := range []api.Edge{
			edge(n, 0, 0), edge(-1, 0, 0), edge(math.MaxInt, 0, 0), edge(math.MinInt, 0, 0),
			edge(0, n, 0), edge(0, -1, 0), edge(0, math.MaxInt, 0), edge(0, math.MinInt, 0),
			edge(0, 0, api.MaxWeight+1), edge(0, 0, -1), edge(0, 0, math.MaxInt), edge(0, 0, math.MinInt),
			edge(n-1, n-1, api.MaxWeight+1), edge(n-1, n-1, -1), edge(n, n, -1), edge(-1, -1, -1),
		} {
			allRefuse(t, graphOf(n, w), api.ErrRange)
			allRefuse(t, graphOf(n, w, right, right), api.ErrRange)
			allRefuse(t, graphOf(n, right, w, right), api.ErrRange)
			allRefuse(t, graphOf(n, append(many(api.MaxEdges-1), w)...), api.ErrRange)
		}
	}
	// Without vertices no edge is inside.
	allRefuse(t, graphOf(0, edge(0, 0, 0)), api.ErrRange)
	allRefuse(t, graphOf(0, edge(-1, -1, 0)), api.ErrRange)
}

// P4.1: what is in the spare room of a list is no edge.
func TestSpareRoom(t *testing.T) {
	l := append([]api.Edge{edge(0, 1, 3)}, edge(1, 0, 0), edge(1, 2, 0), edge(-1, -1, -1))
	g := graphOf(3, l[:1]...)
	dists(t, g, 0, 0, 3, api.None)
	weak(t, g, 0, 0, 2)
	reaches(t, g, 0, true, true, false)
	strong(t, g, 0, 1, 2)
	full := append(many(api.MaxEdges), edge(0, 0, 0))
	weak(t, graphOf(1, full[:api.MaxEdges]...), 0)
}

// sumsByWords: the least sums from the source, told by edges gone again and again till none makes a path shorter.
func sumsByWords(g api.Graph, source int) []int {
	l := same(g.N, api.None)
	l[source] = 0
	for again := true; again; {
		again = false
		for _, e := range g.Edges {
			if l[e.From] != api.None && (l[e.To] == api.None || l[e.To] > l[e.From]+e.Weight) {
				l[e.To], again = l[e.From]+e.Weight, true
			}
		}
	}
	return l
}

// table of all pairs: is there a path from the one to the other?
func table(g api.Graph, either bool) [][]bool {
	is := make([][]bool, g.N)
	for v := range is {
		is[v] = make([]bool, g.N)
		is[v][v] = true
	}
	for _, e := range g.Edges {
		is[e.From][e.To] = true
		if either {
			is[e.To][e.From] = true
		}
	}
	for k := range is {
		for v := range is {
			for w := range is {
				is[v][w] = is[v][w] || is[v][k] && is[k][w]
			}
		}
	}
	return is
}

// leastBy the table: of each vertex the least one, there and back.
func leastBy(is [][]bool) []int {
	var l []int
	for v := range is {
		w := 0
		for !is[v][w] || !is[w][v] {
			w++
		}
		l = append(l, w)
	}
	return l
}

// holds: all answers are as the words say, and what comes of it: two vertices have the same Strong just if each reaches the other.
func holds(t *testing.T, g api.Graph) {
	t.Helper()
	is := table(g, false)
	for v := range g.N {
		dists(t, g, v, sumsByWords(g, v)...)
		reaches(t, g, v, is[v]...)
	}
	weak(t, g, leastBy(table(g, true))...)
	strong(t, g, leastBy(is)...)
	l, _ := Strong(g)
	var to [][]bool
	for v := range g.N {
		r, _ := Reach(g, v)
		to = append(to, r)
	}
	for v := range l {
		for w := range l {
			if (l[v] == l[w]) != (to[v][w] && to[w][v]) {
				t.Errorf("Strong %s = %s: wrong of %d and %d", tell(g), tell(l), v, w)
			}
		}
	}
}

// P12.1 to P12.4: all graphs of few vertices, each edge once or not at all.
func TestAllSmall(t *testing.T) {
	for n := range 4 {
		for set := range 1 << (n * n) {
			g := graphOf(n)
			for i := range n * n {
				if set>>i&1 == 1 {
					g.Edges = append(g.Edges, edge(i/n, i%n, i*i%5))
				}
			}
			holds(t, g)
		}
	}
	// Of four vertices, without edges from a vertex to itself.
	for set := range 1 << 12 {
		g := graphOf(4)
		for i := range 12 {
			if set>>i&1 == 1 {
				g.Edges = append(g.Edges, edge(i/3, (i/3+1+i%3)%4, i*i%7))
			}
		}
		holds(t, g)
	}
}

// P12.1: three vertices, each of the six edges between them with each of some weights, or not at all.
func TestAllWeights(t *testing.T) {
	weights := []int{api.None, 0, 1, 3, api.MaxWeight}
	for set := range 15625 { // 5^6
		g := graphOf(3)
		for i, rest := 0, set; i < 6; i, rest = i+1, rest/5 {
			if w := weights[rest%5]; w != api.None {
				g.Edges = append(g.Edges, edge(i/2, (i/2+1+i%2)%3, w))
			}
		}
		for v := range 3 {
			dists(t, g, v, sumsByWords(g, v)...)
		}
	}
}

// lightest of all paths from a vertex to another one that go through no vertex twice; None: there is none.
func lightest(g api.Graph, from, to int, been []int) int {
	if from == to {
		return 0
	}
	least := api.None
	been = append(slices.Clone(been), from)
	for _, e := range g.Edges {
		if e.From != from || slices.Contains(been, e.To) {
			continue
		}
		if rest := lightest(g, e.To, to, been); rest != api.None && (least == api.None || least > e.Weight+rest) {
			least = e.Weight + rest
		}
	}
	return least
}

// die: numbers that look drawn, the same each time.
type die uint64

func (d *die) n(most int) int {
	*d = *d*6364136223846793005 + 1442695040888963407
	return int(uint64(*d>>33) % uint64(most))
}

// weight: a small one mostly, else one of the greatest, or 0.
func (d *die) weight() int {
	switch d.n(8) {
	case 0:
		return api.MaxWeight - d.n(2)
	case 1:
		return 0
	}
	return d.n(12)
}

// graph with at least one vertex.
func (d *die) graph(n, m int) api.Graph {
	g := api.Graph{N: 1 + d.n(n)}
	for range d.n(m + 1) {
		g.Edges = append(g.Edges, edge(d.n(g.N), d.n(g.N), d.weight()))
	}
	return g
}

// P12.1 to P12.4: drawn graphs; of small ones all paths are gone.
func TestDrawn(t *testing.T) {
	d := die(121)
	for range 400 {
		g := d.graph(6, 14)
		holds(t, g)
		for v := range g.N {
			var want []int
			for w := range g.N {
				want = append(want, lightest(g, v, w, nil))
			}
			dists(t, g, v, want...)
		}
	}
	for range 60 {
		holds(t, d.graph(30, 60))
	}
}

// P12.1 to P12.4: drawn graphs, great ones.
func TestDrawnGreat(t *testing.T) {
	d := die(122)
	for _, m := range []int{100, 200, 250, 300, 400, api.MaxEdges} {
		g := graphOf(api.MaxVertices)
		for range m {
			g.Edges = append(g.Edges, edge(d.n(g.N), d.n(g.N), d.weight()))
		}
		holds(t, g)
	}
}

// P12.1 to P12.4: edges in another order tell the same.
func TestOrder(t *testing.T) {
	d := die(123)
	for range 200 {
		g := d.graph(12, 30)
		mixed := graphOf(g.N, slices.Clone(g.Edges)...)
		for i := range mixed.Edges {
			j := d.n(i + 1)
			mixed.Edges[i], mixed.Edges[j] = mixed.Edges[j], mixed.Edges[i]
		}
		v := d.n(g.N)
		a, _ := Dist(g, v)
		dists(t, mixed, v, a...)
		b, _ := Weak(g)
		weak(t, mixed, b...)
		c, _ := Reach(g, v)
		reaches(t, mixed, v, c...)
		x, _ := Strong(g)
		strong(t, mixed, x...)
	}
}

// roomy: the graph with its edges in a list that has spare room, and the whole list.
func roomy(g api.Graph) (api.Graph, []api.Edge) {
	l := append(slices.Clone(g.Edges), edge(-5, -6, -7), edge(-8, -9, -10))
	return api.Graph{N: g.N, Edges: l[:len(g.Edges)]}, l
}

// P12.1 to P12.4: no call changes the graph that is handed in, nor the spare room of its list; right or wrong.
func TestGraphsStay(t *testing.T) {
	d := die(124)
	for i := range 100 {
		g := d.graph(5, 12)
		if i%4 == 0 {
			g.Edges = append(g.Edges, edge(g.N, 0, 0), edge(0, 0, 1))
		}
		h, whole := roomy(g)
		before := slices.Clone(whole)
		for v := -1; v <= 6; v++ {
			Dist(h, v)
			Reach(h, v)
		}
		Weak(h)
		Strong(h)
		if !slices.Equal(whole, before) {
			t.Fatalf("%s became %s", tell(before), tell(whole))
		}
	}
}

// spoil a list, its spare room too.
func spoil[T any](l []T, x T) {
	l = l[:cap(l)]
	for i := range l {
		l[i] = x
	}
}

// P12.1 to P12.4: what is answered is new memory: spoilt, it changes neither what was handed in, nor other answers, nor what is answered next.
func TestAnswersAreNew(t *testing.T) {
	g, whole := roomy(graphOf(4, edge(0, 1, 2), edge(1, 1, 1), edge(1, 2, 0), edge(2, 1, 4)))
	before := slices.Clone(whole)
	for range 3 {
		a, _ := Dist(g, 0)
		b, _ := Weak(g)
		c, _ := Reach(g, 0)
		x, _ := Strong(g)
		dists(t, g, 0, 0, 2, 2, api.None)
		weak(t, g, 0, 0, 0, 3)
		reaches(t, g, 0, true, true, true, false)
		strong(t, g, 0, 1, 1, 3)
		spoil(a, -7)
		if !slices.Equal(b, []int{0, 0, 0, 3}) || !slices.Equal(x, []int{0, 1, 1, 3}) {
			t.Errorf("with Dist spoilt Weak is %s, Strong %s", tell(b), tell(x))
		}
		spoil(b, -8)
		if !slices.Equal(x, []int{0, 1, 1, 3}) {
			t.Errorf("with Weak spoilt Strong is %s", tell(x))
		}
		spoil(c, true)
		spoil(x, -9)
		if !slices.Equal(whole, before) {
			t.Errorf("%s became %s", tell(before), tell(whole))
		}
	}
}

// P12.1 to P12.4: spoilt arguments do not change what was answered.
func TestAnswersStay(t *testing.T) {
	l := []api.Edge{edge(1, 0, 2), edge(0, 1, 3)}
	g := graphOf(3, l...)
	a, _ := Dist(g, 1)
	b, _ := Weak(g)
	c, _ := Reach(g, 1)
	x, _ := Strong(g)
	spoil(l, edge(2, 2, 9))
	if !slices.Equal(a, []int{2, 0, api.None}) || !slices.Equal(b, []int{0, 0, 2}) {
		t.Errorf("Dist became %s, Weak %s", tell(a), tell(b))
	}
	if !slices.Equal(c, []bool{true, true, false}) || !slices.Equal(x, []int{0, 0, 2}) {
		t.Errorf("Reach became %s, Strong %s", tell(c), tell(x))
	}
}
