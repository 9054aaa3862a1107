package graph

import (
	"fmt"
	"math"
	"slices"
	"testing"

	"paceline/api"
)

// edge: one from a vertex to another one, with its weight.
func edge(from, to, weight int) api.Edge {
	return api.Edge{From: from, To: to, Weight: weight}
}

func graphOf(n int, l ...api.Edge) api.Graph { return api.Graph{N: n, Edges: l} }

// many: so many edges from the first vertex to itself.
func many(n int) []api.Edge { return make([]api.Edge, n) }

func sameGraph(a, b api.Graph) bool { return a.N == b.N && slices.Equal(a.Edges, b.Edges) }

// tell in short what was handed in or answered: lists may be long.
func tell(x any) string { return fmt.Sprintf("%.200s", fmt.Sprint(x)) }

func checks(t *testing.T, g api.Graph, want api.Errno) {
	t.Helper()
	if e := Check(g); e != want {
		t.Errorf("Check %s = %d, want %d", tell(g), e, want)
	}
}

func sorts(t *testing.T, g, want api.Graph) {
	t.Helper()
	if got, e := Sorted(g); e != api.OK || !sameGraph(got, want) {
		t.Errorf("Sorted %s = %s %d, want %s", tell(g), tell(got), e, tell(want))
	}
}

func reverses(t *testing.T, g, want api.Graph) {
	t.Helper()
	if got, e := Reverse(g); e != api.OK || !sameGraph(got, want) {
		t.Errorf("Reverse %s = %s %d, want %s", tell(g), tell(got), e, tell(want))
	}
}

func hops(t *testing.T, g api.Graph, v int, want ...api.Hop) {
	t.Helper()
	if got, e := Hops(g, v); e != api.OK || !slices.Equal(got, want) {
		t.Errorf("Hops %s %d = %s %d, want %s", tell(g), v, tell(got), e, tell(want))
	}
}

func degrees(t *testing.T, g api.Graph, want ...int) {
	t.Helper()
	if got, e := Degrees(g); e != api.OK || !slices.Equal(got, want) {
		t.Errorf("Degrees %s = %s %d, want %s", tell(g), tell(got), e, tell(want))
	}
}

// noHops: the vertex is refused with that error, and no hop is answered.
func noHops(t *testing.T, g api.Graph, v int, want api.Errno) {
	t.Helper()
	if got, e := Hops(g, v); e != want || len(got) != 0 {
		t.Errorf("Hops %s %d = %s %d, want none, %d", tell(g), v, tell(got), e, want)
	}
}

// allRefuse: each call refuses the graph with that error, and answers nothing else; Hops at any vertex.
func allRefuse(t *testing.T, g api.Graph, want api.Errno) {
	t.Helper()
	checks(t, g, want)
	if got, e := Sorted(g); e != want || got.N != 0 || len(got.Edges) != 0 {
		t.Errorf("Sorted %s = %s %d, want nothing, %d", tell(g), tell(got), e, want)
	}
	if got, e := Reverse(g); e != want || got.N != 0 || len(got.Edges) != 0 {
		t.Errorf("Reverse %s = %s %d, want nothing, %d", tell(g), tell(got), e, want)
	}
	for _, v := range []int{math.MinInt, -1, 0, 1, g.N - 1, g.N, math.MaxInt} {
		noHops(t, g, v, want)
	}
	if got, e := Degrees(g); e != want || len(got) != 0 {
		t.Errorf("Degrees %s = %s %d, want none, %d", tell(g), tell(got), e, want)
	}
}

// P4.1: right ones, up to each bound.
func TestCheckRight(t *testing.T) {
	for _, g := range []api.Graph{
		{},
		{Edges: []api.Edge{}},
		graphOf(1),
		graphOf(api.MaxVertices),
		graphOf(1, many(1)...),
		graphOf(1, many(api.MaxEdges)...),
		graphOf(api.MaxVertices, many(api.MaxEdges)...),
		graphOf(api.MaxVertices, edge(api.MaxVertices-1, api.MaxVertices-1, api.MaxWeight)),
		graphOf(3, edge(0, 2, 0), edge(2, 0, api.MaxWeight), edge(1, 1, 1)),
		graphOf(2, edge(1, 0, 5), edge(1, 0, 5), edge(1, 0, 5)),
		{N: 2, Edges: append(make([]api.Edge, 0, 9), edge(0, 1, 1))},
	} {
		checks(t, g, api.OK)
	}
}

// P4.1: ErrSize.
func TestCheckSize(t *testing.T) {
	for _, n := range []int{-1, math.MinInt, api.MaxVertices + 1, math.MaxInt} {
		allRefuse(t, graphOf(n), api.ErrSize)
	}
	allRefuse(t, graphOf(1, many(api.MaxEdges+1)...), api.ErrSize)
	allRefuse(t, graphOf(api.MaxVertices, many(2*api.MaxEdges)...), api.ErrSize)
}

// wrong edges of a graph with that many vertices.
func wrong(n int) []api.Edge {
	return []api.Edge{
		edge(n, 0, 0), edge(-1, 0, 0), edge(math.MaxInt, 0, 0), edge(math.MinInt, 0, 0),
		edge(0, n, 0), edge(0, -1, 0), edge(0, math.MaxInt, 0), edge(0, math.MinInt, 0),
		edge(0, 0, api.MaxWeight+1), edge(0, 0, -1), edge(0, 0, math.MaxInt), edge(0, 0, math.MinInt),
		edge(n, n, api.MaxWeight+1), edge(-1, -1, -1),
	}
}

// P4.1: ErrRange, wherever the edge stands.
func TestCheckRange(t *testing.T) {
	for _, n := range []int{1, 2, 3, api.MaxVertices} {
		right := edge(n-1, n-1, api.MaxWeight)
		for _, w := range wrong(n) {
			allRefuse(t, graphOf(n, w), api.ErrRange)
			allRefuse(t, graphOf(n, w, right, right), api.ErrRange)
			allRefuse(t, graphOf(n, right, w, right), api.ErrRange)
			allRefuse(t, graphOf(n, append(many(api.MaxEdges-1), w)...), api.ErrRange)
		}
	}
	// Without vertices no edge is inside.
	allRefuse(t, graphOf(0, edge(0, 0, 0)), api.ErrRange)
	allRefuse(t, graphOf(0, edge(-1, -1, 0)), api.ErrRange)
}

// P4.1: ErrSize is told ahead of ErrRange.
func TestCheckSizeAheadOfRange(t *testing.T) {
	for _, w := range wrong(1) {
		allRefuse(t, graphOf(1, append(many(api.MaxEdges), w)...), api.ErrSize)
		allRefuse(t, graphOf(1, append([]api.Edge{w}, many(api.MaxEdges)...)...), api.ErrSize)
		allRefuse(t, graphOf(-1, w), api.ErrSize)
		allRefuse(t, graphOf(api.MaxVertices+1, w), api.ErrSize)
	}
}

// P4.1: what is in the spare room of a list is no edge.
func TestCheckSpareRoom(t *testing.T) {
	l := append(many(api.MaxEdges), edge(-1, -1, -1))
	checks(t, graphOf(1, l[:api.MaxEdges]...), api.OK)
	checks(t, api.Graph{N: 1, Edges: l[:0]}, api.OK)
}

// P4.2
func TestSorted(t *testing.T) {
	sorts(t, graphOf(0), graphOf(0))
	sorts(t, api.Graph{Edges: []api.Edge{}}, graphOf(0))
	sorts(t, graphOf(7), graphOf(7))
	sorts(t, graphOf(3, edge(2, 0, 0), edge(1, 0, 0), edge(0, 0, 0)), graphOf(3, edge(0, 0, 0), edge(1, 0, 0), edge(2, 0, 0)))
	// From goes ahead of To and Weight, To ahead of Weight.
	sorts(t, graphOf(3, edge(1, 0, 0), edge(0, 2, 9)), graphOf(3, edge(0, 2, 9), edge(1, 0, 0)))
	sorts(t, graphOf(3, edge(1, 2, 0), edge(1, 0, 9)), graphOf(3, edge(1, 0, 9), edge(1, 2, 0)))
	sorts(t, graphOf(3, edge(1, 2, 9), edge(1, 2, 0), edge(1, 2, api.MaxWeight), edge(1, 2, 1)), graphOf(3, edge(1, 2, 0), edge(1, 2, 1), edge(1, 2, 9), edge(1, 2, api.MaxWeight)))
	// As numbers, not as texts.
	sorts(t, graphOf(11, edge(10, 0, 0), edge(9, 10, 10), edge(9, 10, 9), edge(9, 9, 10)), graphOf(11, edge(9, 9, 10), edge(9, 10, 9), edge(9, 10, 10), edge(10, 0, 0)))
	// What is in order stays so.
	sorts(t, graphOf(2, edge(0, 0, 1), edge(0, 1, 0), edge(1, 0, 0)), graphOf(2, edge(0, 0, 1), edge(0, 1, 0), edge(1, 0, 0)))
}

// P4.2: edges that are alike stay all.
func TestSortedAlike(t *testing.T) {
	sorts(t, graphOf(2, edge(1, 0, 3), edge(0, 1, 2), edge(1, 0, 3), edge(0, 1, 2), edge(1, 0, 3)), graphOf(2, edge(0, 1, 2), edge(0, 1, 2), edge(1, 0, 3), edge(1, 0, 3), edge(1, 0, 3)))
	sorts(t, graphOf(1, many(api.MaxEdges)...), graphOf(1, many(api.MaxEdges)...))
}

// P4.3: the chapter's example is the first one.
func TestReverse(t *testing.T) {
	reverses(t, graphOf(2, edge(1, 0, 0), edge(0, 1, 0)), graphOf(2, edge(0, 1, 0), edge(1, 0, 0)))
	reverses(t, graphOf(0), graphOf(0))
	reverses(t, api.Graph{Edges: []api.Edge{}}, graphOf(0))
	reverses(t, graphOf(5), graphOf(5))
	reverses(t, graphOf(4, edge(3, 1, 6)), graphOf(4, edge(1, 3, 6)))
	reverses(t, graphOf(4, edge(2, 2, api.MaxWeight)), graphOf(4, edge(2, 2, api.MaxWeight)))
	// In the order of what comes of it: these were in order before.
	reverses(t, graphOf(3, edge(0, 1, 7), edge(0, 2, 8), edge(1, 0, 9)), graphOf(3, edge(0, 1, 9), edge(1, 0, 7), edge(2, 0, 8)))
	reverses(t, graphOf(3, edge(2, 1, 0), edge(0, 1, 5), edge(0, 1, 4)), graphOf(3, edge(1, 0, 4), edge(1, 0, 5), edge(1, 2, 0)))
	// Edges that are alike stay all.
	reverses(t, graphOf(2, edge(0, 1, 3), edge(0, 1, 3), edge(0, 1, 3)), graphOf(2, edge(1, 0, 3), edge(1, 0, 3), edge(1, 0, 3)))
	reverses(t, graphOf(1, many(api.MaxEdges)...), graphOf(1, many(api.MaxEdges)...))
}

// P4.4
func TestHops(t *testing.T) {
	g := graphOf(4, edge(1, 3, 0), edge(3, 1, 8), edge(1, 0, 5), edge(1, 3, 0), edge(1, 1, 2), edge(1, 0, 4), edge(0, 1, 7))
	hops(t, g, 0, api.Hop{To: 1, Weight: 7})
	hops(t, g, 1, api.Hop{To: 0, Weight: 4}, api.Hop{To: 0, Weight: 5}, api.Hop{To: 1, Weight: 2}, api.Hop{To: 3}, api.Hop{To: 3})
	hops(t, g, 2)
	hops(t, g, 3, api.Hop{To: 1, Weight: 8})
	hops(t, graphOf(1), 0)
	hops(t, graphOf(api.MaxVertices, edge(api.MaxVertices-1, 0, api.MaxWeight)), api.MaxVertices-1, api.Hop{Weight: api.MaxWeight})
	hops(t, graphOf(1, many(api.MaxEdges)...), 0, make([]api.Hop, api.MaxEdges)...)
}

// P4.4: ErrRange.
func TestHopsRange(t *testing.T) {
	for _, n := range []int{0, 1, 2, api.MaxVertices} {
		for _, v := range []int{-1, math.MinInt, n, n + 1, math.MaxInt} {
			noHops(t, graphOf(n), v, api.ErrRange)
		}
	}
	noHops(t, graphOf(2, edge(0, 1, 0), edge(1, 0, 0)), 2, api.ErrRange)
}

// P4.4: what is wrong with the graph is told ahead of what is wrong with the vertex.
func TestHopsGraphAheadOfVertex(t *testing.T) {
	for _, v := range []int{-1, 0, 1, 2} {
		noHops(t, graphOf(-1), v, api.ErrSize)
		noHops(t, graphOf(1, many(api.MaxEdges+1)...), v, api.ErrSize)
	}
}

// P4.5
func TestDegrees(t *testing.T) {
	degrees(t, graphOf(0))
	degrees(t, api.Graph{Edges: []api.Edge{}})
	degrees(t, graphOf(3), 0, 0, 0)
	degrees(t, graphOf(api.MaxVertices), make([]int, api.MaxVertices)...)
	degrees(t, graphOf(2, edge(1, 0, 0)), 0, 1)
	degrees(t, graphOf(3, edge(2, 0, 9), edge(0, 0, 1), edge(2, 0, 9), edge(2, 1, 0)), 1, 0, 3)
	degrees(t, graphOf(1, many(api.MaxEdges)...), api.MaxEdges)
}

// die: numbers that look drawn, the same each time.
type die uint64

func (d *die) n(most int) int {
	*d = *d*6364136223846793005 + 1442695040888963407
	return int(uint64(*d>>33) % uint64(most))
}

// graph with at least one vertex; of weights there are few, so that edges are alike.
func (d *die) graph(n, m int) api.Graph {
	g := api.Graph{N: 1 + d.n(n)}
	for range d.n(m + 1) {
		g.Edges = append(g.Edges, edge(d.n(g.N), d.n(g.N), d.n(4)))
	}
	return g
}

// ahead: an edge that stands ahead of another one, by the chapter's words.
func ahead(a, b api.Edge) bool {
	if a.From != b.From {
		return a.From < b.From
	}
	if a.To != b.To {
		return a.To < b.To
	}
	return a.Weight < b.Weight
}

// put each edge behind all that do not come behind it: the order without a sort of the library.
func put(l []api.Edge) []api.Edge {
	var out []api.Edge
	for _, e := range l {
		at := 0
		for at < len(out) && !ahead(e, out[at]) {
			at++
		}
		out = slices.Insert(out, at, e)
	}
	return out
}

func turned(l []api.Edge) []api.Edge {
	var out []api.Edge
	for _, e := range l {
		out = append(out, edge(e.To, e.From, e.Weight))
	}
	return out
}

func from(l []api.Edge, v int) []api.Hop {
	var out []api.Hop
	for _, e := range l {
		if e.From == v {
			out = append(out, api.Hop{To: e.To, Weight: e.Weight})
		}
	}
	return out
}

// P4.2 to P4.5: drawn graphs, and what comes of the promises: reversed twice a graph is as it was, in order; degrees add up to the number of edges.
func TestDrawn(t *testing.T) {
	d := die(44)
	for i := range 300 {
		g := d.graph(6, 30)
		if i%50 == 0 {
			g = d.graph(api.MaxVertices, api.MaxEdges)
		}
		checks(t, g, api.OK)
		order := put(g.Edges)
		sorts(t, g, graphOf(g.N, order...))
		reverses(t, g, graphOf(g.N, put(turned(g.Edges))...))
		back, _ := Reverse(g)
		reverses(t, back, graphOf(g.N, order...))
		var counts []int
		for v := range g.N {
			hops(t, g, v, from(order, v)...)
			counts = append(counts, len(from(order, v)))
		}
		degrees(t, g, counts...)
		sum := 0
		for _, n := range counts {
			sum += n
		}
		if sum != len(g.Edges) {
			t.Errorf("degrees of %s add up to %d", tell(g), sum)
		}
	}
}

// roomy: the graph with its edges in a list that has spare room, and the whole list.
func roomy(g api.Graph) (api.Graph, []api.Edge) {
	l := append(slices.Clone(g.Edges), edge(-5, -6, -7), edge(-8, -9, -10))
	return api.Graph{N: g.N, Edges: l[:len(g.Edges)]}, l
}

// ask all calls for that graph.
func ask(g api.Graph) {
	Check(g)
	Sorted(g)
	Reverse(g)
	for v := -1; v <= 6; v++ {
		Hops(g, v)
	}
	Degrees(g)
}

// P4.1 to P4.5: no call changes the graph that is handed in, nor the spare room of its list; right or wrong.
func TestGraphsStay(t *testing.T) {
	d := die(45)
	for i := range 100 {
		g := d.graph(5, 12)
		if i%4 == 0 {
			g.Edges = append(g.Edges, edge(g.N, 0, 0), edge(0, 0, 1))
		}
		h, whole := roomy(g)
		before := slices.Clone(whole)
		ask(h)
		if !slices.Equal(whole, before) {
			t.Fatalf("%s became %s", tell(before), tell(whole))
		}
	}
}

// spoil a list, its spare room too.
func spoil[T any](l []T, x T) {
	l = l[:cap(l)]
	for i := range l {
		l[i] = x
	}
}

// P4.2 to P4.5: what is answered is new memory: spoilt, it changes neither what was handed in nor what is answered next.
func TestAnswersAreNew(t *testing.T) {
	bad := edge(-1, -1, -1)
	for _, g := range []api.Graph{
		graphOf(3, edge(0, 1, 2), edge(1, 1, 1), edge(1, 2, 0), edge(2, 0, 4)),
		graphOf(1, edge(0, 0, 0)),
		graphOf(3),
		graphOf(0),
	} {
		h, whole := roomy(g)
		before := slices.Clone(whole)
		a, _ := Sorted(h)
		b, _ := Reverse(h)
		c, _ := Hops(h, 1)
		x, _ := Degrees(h)
		spoil(a.Edges, bad)
		spoil(b.Edges, bad)
		spoil(c, api.Hop{To: -1, Weight: -1})
		spoil(x, -1)
		if !slices.Equal(whole, before) {
			t.Errorf("%s became %s", tell(before), tell(whole))
		}
		order := put(g.Edges)
		sorts(t, h, graphOf(g.N, order...))
		reverses(t, h, graphOf(g.N, put(turned(g.Edges))...))
		if g.N > 1 {
			hops(t, h, 1, from(order, 1)...)
		}
		counts := make([]int, g.N)
		for v := range counts {
			counts[v] = len(from(order, v))
		}
		degrees(t, h, counts...)
	}
}

// P4.2, P4.3: spoilt arguments do not change what was answered.
func TestAnswersStay(t *testing.T) {
	l := []api.Edge{edge(1, 0, 2), edge(0, 1, 3)}
	g := graphOf(2, l...)
	a, _ := Sorted(g)
	b, _ := Reverse(g)
	c, _ := Hops(g, 1)
	spoil(l, edge(-1, -1, -1))
	if !slices.Equal(a.Edges, []api.Edge{edge(0, 1, 3), edge(1, 0, 2)}) {
		t.Errorf("Sorted became %s", tell(a))
	}
	if !slices.Equal(b.Edges, []api.Edge{edge(0, 1, 2), edge(1, 0, 3)}) {
		t.Errorf("Reverse became %s", tell(b))
	}
	if !slices.Equal(c, []api.Hop{{To: 0, Weight: 2}}) {
		t.Errorf("Hops became %s", tell(c))
	}
}
