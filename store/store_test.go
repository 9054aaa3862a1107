package store

import (
	"bytes"
	"cmp"
	"encoding/binary"
	"fmt"
	"math"
	"slices"
	"testing"

	"paceline/api"
	"paceline/frame"
)

func edge(from, to, weight int) api.Edge {
	return api.Edge{From: from, To: to, Weight: weight}
}

func hop(to, weight int) api.Hop { return api.Hop{To: to, Weight: weight} }

func graphOf(n int, l ...api.Edge) api.Graph { return api.Graph{N: n, Edges: l} }

// hops: lists of hops, one a vertex.
func hops(l ...[]api.Hop) [][]api.Hop { return l }

// many hops, all alike.
func many(n int, h api.Hop) []api.Hop { return slices.Repeat([]api.Hop{h}, n) }

// tell in short what was handed in or answered: lists may be long.
func tell(x any) string { return fmt.Sprintf("%.300s", fmt.Sprint(x)) }

func wrap(t *testing.T, payload []byte) []byte {
	t.Helper()
	b, e := frame.Wrap(payload)
	if e != api.OK {
		t.Fatalf("a payload of %d bytes has no frame: %d", len(payload), e)
	}
	return b
}

func sameHops(a, b [][]api.Hop) bool {
	return slices.EqualFunc(a, b, func(x, y []api.Hop) bool { return slices.Equal(x, y) })
}

func samePart(a, b api.Part) bool {
	return a.Worker == b.Worker && a.Workers == b.Workers && a.N == b.N && sameHops(a.Out, b.Out) && sameHops(a.In, b.In)
}

func builds(t *testing.T, g api.Graph, w, workers int, payload ...byte) {
	t.Helper()
	want := wrap(t, payload)
	if got, e := Build(g, w, workers); e != api.OK || !bytes.Equal(got, want) {
		t.Errorf("Build %s %d %d = %s %d, want %s", tell(g), w, workers, tell(got), e, tell(want))
	}
}

// noBuild: the part is refused with that error, and no byte is answered.
func noBuild(t *testing.T, g api.Graph, w, workers int, want api.Errno) {
	t.Helper()
	if got, e := Build(g, w, workers); e != want || len(got) != 0 {
		t.Errorf("Build %s %d %d = %s %d, want none, %d", tell(g), w, workers, tell(got), e, want)
	}
}

func opens(t *testing.T, payload []byte, want api.Part) {
	t.Helper()
	if got, e := Open(wrap(t, payload)); e != api.OK || !samePart(got, want) {
		t.Errorf("Open the frame of %s = %s %d, want %s", tell(payload), tell(got), e, tell(want))
	}
}

// noOpen: the bytes are refused with that error, and nothing of a part is answered.
func noOpen(t *testing.T, b []byte, want api.Errno) {
	t.Helper()
	got, e := Open(b)
	if e != want || got.Worker != 0 || got.Workers != 0 || got.N != 0 || len(got.Out) != 0 || len(got.In) != 0 {
		t.Errorf("Open %s = %s %d, want nothing, %d", tell(b), tell(got), e, want)
	}
}

// noPart: a whole frame with this payload is ErrForm.
func noPart(t *testing.T, payload ...byte) {
	t.Helper()
	noOpen(t, wrap(t, payload), api.ErrForm)
}

// payloadOf any part, right or not, by the library's own numbers.
func payloadOf(p api.Part) []byte {
	var b []byte
	put := func(n int) { b = binary.AppendUvarint(b, uint64(n)) }
	side := func(l []api.Hop) {
		put(len(l))
		ahead := 0
		for _, h := range l {
			put(h.To - ahead)
			ahead = h.To
		}
		for _, h := range l {
			put(h.Weight)
		}
	}
	put(p.Worker)
	put(p.Workers)
	put(p.N)
	for i := range p.Out {
		side(p.Out[i])
		side(p.In[i])
	}
	return b
}

// partOf a graph, put together by hand: what Build should pack.
func partOf(g api.Graph, w, workers int) api.Part {
	p := api.Part{Worker: w, Workers: workers, N: g.N}
	for v := range g.N {
		if v%workers != w {
			continue
		}
		var out, in []api.Hop
		for _, e := range g.Edges {
			if e.From == v {
				out = append(out, hop(e.To, e.Weight))
			}
			if e.To == v {
				in = append(in, hop(e.From, e.Weight))
			}
		}
		for _, l := range [][]api.Hop{out, in} {
			slices.SortFunc(l, func(a, b api.Hop) int {
				return cmp.Or(a.To-b.To, a.Weight-b.Weight)
			})
		}
		p.Out, p.In = append(p.Out, out), append(p.In, in)
	}
	return p
}

// mayBe: is the part within all bounds that P7.2 names?
func mayBe(p api.Part) bool {
	for _, side := range [][][]api.Hop{p.Out, p.In} {
		all := 0
		for _, l := range side {
			all += len(l)
			for i, h := range l {
				if h.To >= p.N || h.Weight > api.MaxWeight || i > 0 && l[i-1].To == h.To && l[i-1].Weight > h.Weight {
					return false
				}
			}
		}
		if all > api.MaxEdges {
			return false
		}
	}
	return true
}

// read a payload without asking much of it: a plain model of Open asks the part that comes of it whether it may be, and whether it has this very payload.
func read(payload []byte) (p api.Part, ok bool) {
	rest := payload
	fine := true
	get := func() int {
		n, k := binary.Uvarint(rest)
		if k <= 0 || n > math.MaxInt32<<20 {
			fine = false
			return 0
		}
		rest = rest[k:]
		return int(n)
	}
	side := func() []api.Hop {
		count := get()
		if count > len(payload) {
			fine = false
			return nil
		}
		l := make([]api.Hop, count)
		to := 0
		for i := range l {
			to += get()
			l[i].To = to
		}
		for i := range l {
			l[i].Weight = get()
		}
		return l
	}
	p.Worker, p.Workers, p.N = get(), get(), get()
	if !fine || p.Workers < 1 || p.Workers > api.MaxWorkers || p.Worker >= p.Workers || p.N > api.MaxVertices {
		return api.Part{}, false
	}
	for v := p.Worker; v < p.N && fine; v += p.Workers {
		out := side()
		p.Out, p.In = append(p.Out, out), append(p.In, side())
	}
	if !fine || len(rest) > 0 || !mayBe(p) || !bytes.Equal(payloadOf(p), payload) {
		return api.Part{}, false
	}
	return p, true
}

// asModel: Open tells of a whole frame with this payload what the plain model tells.
func asModel(t *testing.T, payload []byte) {
	t.Helper()
	want, ok := read(payload)
	if ok {
		opens(t, payload, want)
	} else {
		noPart(t, payload...)
	}
}

// die: numbers that look drawn, the same each time.
type die uint64

func (d *die) n(most int) int {
	*d = *d*6364136223846793005 + 1442695040888963407
	return int(uint64(*d>>33) % uint64(most))
}

func (d *die) graph(most, edges int) api.Graph {
	g := api.Graph{N: 1 + d.n(most)}
	for range d.n(edges + 1) {
		g.Edges = append(g.Edges, edge(d.n(g.N), d.n(g.N), d.n(4)*d.n(200)))
	}
	return g
}

// full: a graph with as much as may be, all to be packed long.
func full() api.Graph {
	g := api.Graph{N: api.MaxVertices}
	for i := range api.MaxEdges {
		g.Edges = append(g.Edges, edge(i%g.N, g.N-1-i/3%70, api.MaxWeight-i%2))
	}
	return g
}

// P7.1: payloads written out by hand.
func TestBuild(t *testing.T) {
	g := graphOf(3, edge(0, 1, 7), edge(2, 0, 300), edge(1, 2, 0))
	builds(t, g, 0, 1,
		0, 1, 3, // the worker 0 of 1, 3 vertices
		1, 1, 7, 1, 2, 172, 2, // 0: to 1; from 2
		1, 2, 0, 1, 0, 7, // 1: to 2; from 0
		1, 0, 172, 2, 1, 1, 0) // 2: to 0; from 1
	builds(t, g, 0, 2, 0, 2, 3, 1, 1, 7, 1, 2, 172, 2, 1, 0, 172, 2, 1, 1, 0)
	builds(t, g, 1, 2, 1, 2, 3, 1, 2, 0, 1, 0, 7)
	builds(t, g, 2, 3, 2, 3, 3, 1, 0, 172, 2, 1, 1, 0)
}

// P7.1: no vertices, no edges, one worker, MaxWorkers workers, a worker without vertices.
func TestBuildLittle(t *testing.T) {
	builds(t, api.Graph{}, 0, 1, 0, 1, 0)
	builds(t, api.Graph{Edges: []api.Edge{}}, 7, 8, 7, 8, 0)
	builds(t, graphOf(1), 0, 1, 0, 1, 1, 0, 0)
	builds(t, graphOf(3), 0, 1, 0, 1, 3, 0, 0, 0, 0, 0, 0)
	builds(t, graphOf(3), 0, 2, 0, 2, 3, 0, 0, 0, 0)
	builds(t, graphOf(3), 1, 2, 1, 2, 3, 0, 0)
	builds(t, graphOf(3, edge(2, 1, 5)), 3, 4, 3, 4, 3)
	builds(t, graphOf(10, edge(1, 9, 5)), 1, 8, 1, 8, 10, 1, 9, 5, 0, 0, 1, 1, 5)
	builds(t, graphOf(10, edge(1, 9, 5)), 7, 8, 7, 8, 10, 0, 0)
	builds(t, graphOf(api.MaxVertices), 7, 8, append([]byte{7, 8, 200, 1}, make([]byte, 50)...)...)
}

// P7.1: several edges between the same two vertices, edges from a vertex to itself, edges out of order.
func TestBuildOrder(t *testing.T) {
	g := graphOf(3, edge(0, 2, 9), edge(0, 1, 4), edge(0, 2, 3), edge(0, 1, 4), edge(0, 0, 1))
	builds(t, g, 0, 3, 0, 3, 3, 5, 0, 1, 0, 1, 0, 1, 4, 4, 3, 9, 1, 0, 1)
	builds(t, g, 1, 3, 1, 3, 3, 0, 2, 0, 0, 4, 4)
	builds(t, g, 2, 3, 2, 3, 3, 0, 2, 0, 0, 3, 9)
	back := graphOf(3, edge(2, 1, 5), edge(1, 1, 8), edge(0, 1, 6), edge(2, 1, 2), edge(1, 1, 7))
	builds(t, back, 1, 2, 1, 2, 3, 2, 1, 0, 7, 8, 5, 0, 1, 0, 1, 0, 6, 7, 8, 2, 5)
}

// P7.1: numbers of more bytes than one, and the most that a graph may have.
func TestBuildMost(t *testing.T) {
	heavy := []byte{128, 128, 128, 128, 128, 32} // MaxWeight
	b := append([]byte{0, 1, 200, 1}, make([]byte, 199*2)...)
	b = append(append(b, 1, 199, 1), heavy...)
	b = append(append(b, 1, 199, 1), heavy...)
	builds(t, graphOf(api.MaxVertices, edge(199, 199, api.MaxWeight)), 0, 1, b...)
	b = append([]byte{0, 1, 1}, 216, 4)
	b = append(b, make([]byte, 2*api.MaxEdges)...)
	b = append(append(b, 216, 4), make([]byte, 2*api.MaxEdges)...)
	builds(t, graphOf(1, make([]api.Edge, api.MaxEdges)...), 0, 1, b...)
	g := full()
	for workers := 1; workers <= api.MaxWorkers; workers++ {
		for w := range workers {
			builds(t, g, w, workers, payloadOf(partOf(g, w, workers))...)
		}
	}
}

// P7.1: what P4.1 refuses, with the same error, ahead of what is wrong with the worker.
func TestBuildGraphRefused(t *testing.T) {
	size := []api.Graph{
		{N: -1}, {N: api.MaxVertices + 1}, {N: math.MinInt}, {N: math.MaxInt},
		graphOf(1, make([]api.Edge, api.MaxEdges+1)...),
		graphOf(0, make([]api.Edge, api.MaxEdges+1)...),
	}
	reach := []api.Graph{
		graphOf(0, edge(0, 0, 0)), graphOf(2, edge(2, 0, 0)), graphOf(2, edge(0, 2, 0)),
		graphOf(2, edge(-1, 0, 0)), graphOf(2, edge(0, -1, 0)), graphOf(2, edge(0, 0, -1)),
		graphOf(2, edge(0, 1, 1), edge(0, 0, api.MaxWeight+1)),
		graphOf(2, edge(math.MinInt, math.MaxInt, math.MinInt)),
	}
	for _, at := range [][2]int{{0, 1}, {1, 2}, {0, 0}, {0, 9}, {0, -1}, {-1, 1}, {1, 1}, {math.MinInt, math.MaxInt}} {
		for _, g := range size {
			noBuild(t, g, at[0], at[1], api.ErrSize)
		}
		for _, g := range reach {
			noBuild(t, g, at[0], at[1], api.ErrRange)
		}
	}
}

// P7.1: what P6.2 refuses, with the same error: the number of workers ahead of the worker.
func TestBuildWorkerRefused(t *testing.T) {
	for _, g := range []api.Graph{{}, graphOf(1), graphOf(9, edge(8, 0, 1)), full()} {
		for _, workers := range []int{0, -1, 9, math.MinInt, math.MaxInt} {
			for _, w := range []int{0, -1, 1, 8, 9, math.MinInt, math.MaxInt} {
				noBuild(t, g, w, workers, api.ErrSize)
			}
		}
		for workers := 1; workers <= api.MaxWorkers; workers++ {
			for _, w := range []int{-1, workers, workers + 1, math.MinInt, math.MaxInt} {
				noBuild(t, g, w, workers, api.ErrRange)
			}
		}
	}
}

// P7.2: parts of payloads written out by hand.
func TestOpen(t *testing.T) {
	opens(t, []byte{0, 1, 0}, api.Part{Workers: 1})
	opens(t, []byte{7, 8, 0}, api.Part{Worker: 7, Workers: 8})
	opens(t, []byte{3, 4, 3}, api.Part{Worker: 3, Workers: 4, N: 3})
	opens(t, []byte{1, 2, 3, 0, 0}, api.Part{Worker: 1, Workers: 2, N: 3, Out: hops(nil), In: hops(nil)})
	opens(t, []byte{0, 2, 3, 1, 1, 7, 1, 2, 172, 2, 2, 0, 2, 4, 3, 0}, api.Part{
		Workers: 2, N: 3,
		Out: hops([]api.Hop{hop(1, 7)}, []api.Hop{hop(0, 4), hop(2, 3)}),
		In:  hops([]api.Hop{hop(2, 300)}, nil),
	})
	opens(t, []byte{0, 8, 5, 3, 1, 0, 0, 4, 4, 6, 0}, api.Part{
		Workers: 8, N: 5, Out: hops([]api.Hop{hop(1, 4), hop(1, 4), hop(1, 6)}), In: hops(nil),
	})
}

// P7.2: as many hops as may be, forward and back, at one vertex and at several; the greatest To and Weight.
func TestOpenMost(t *testing.T) {
	l := many(api.MaxEdges, hop(api.MaxVertices-1, api.MaxWeight))
	p := api.Part{Worker: 7, Workers: 8, N: api.MaxVertices, Out: make([][]api.Hop, 25), In: make([][]api.Hop, 25)}
	p.Out[0], p.In[24] = l, l
	opens(t, payloadOf(p), p)
	p.Out[0], p.Out[1] = l[:api.MaxEdges-1], l[:1]
	p.In[23], p.In[24] = l[:1], l[:api.MaxEdges-1]
	opens(t, payloadOf(p), p)
}

// P7.2: the hops of a part need not fit together, nor with those of others.
func TestOpenUnfit(t *testing.T) {
	opens(t, []byte{0, 1, 1, 1, 0, 5, 0}, api.Part{Workers: 1, N: 1, Out: hops([]api.Hop{hop(0, 5)}), In: hops(nil)})
	opens(t, []byte{0, 1, 1, 0, 1, 0, 5}, api.Part{Workers: 1, N: 1, Out: hops(nil), In: hops([]api.Hop{hop(0, 5)})})
}

// P7.2: what Unwrap refuses, with the same error, ahead of what is wrong with the payload.
func TestOpenFrameRefused(t *testing.T) {
	noOpen(t, nil, api.ErrShort)
	noOpen(t, []byte{}, api.ErrShort)
	noOpen(t, []byte{128}, api.ErrShort)
	noOpen(t, []byte{3, 0, 1, 0, 9, 9, 9}, api.ErrShort)
	noOpen(t, []byte{128, 0, 0, 0, 0, 0}, api.ErrForm)
	noOpen(t, []byte{255, 255, 255, 255, 255, 255, 255, 255, 255, 2}, api.ErrOver)
	noOpen(t, []byte{161, 156, 1}, api.ErrSize)
	for _, payload := range [][]byte{{0, 1, 1, 0, 0}, {0, 1, 1, 1, 0, 5, 1, 0, 5}, {9, 9, 9}, {}} {
		b := wrap(t, payload)
		for i := range b {
			noOpen(t, b[:i], api.ErrShort)
		}
		for i := 1; i < len(b); i++ {
			for x := 1; x < 256; x++ {
				c := bytes.Clone(b)
				c[i] ^= byte(x)
				noOpen(t, c, api.ErrSum)
			}
		}
	}
}

// P7.2: bytes behind the frame.
func TestOpenBehindFrame(t *testing.T) {
	b := wrap(t, []byte{0, 1, 1, 0, 0})
	noOpen(t, append(bytes.Clone(b), 0), api.ErrForm)
	noOpen(t, append(bytes.Clone(b), b...), api.ErrForm)
	noOpen(t, append(wrap(t, nil), 0), api.ErrForm)
	// A sum that is wrong is told first.
	noOpen(t, append([]byte{0, 0, 0, 0, 0}, b...), api.ErrSum)
}

// P7.2: numbers that Get or Ungap refuses, at each place where one may stand.
func TestOpenNumberRefused(t *testing.T) {
	whole := []byte{0, 1, 2, 1, 1, 7, 0, 0, 1, 0, 7}
	for i := range whole {
		noPart(t, whole[:i]...)
		for _, n := range [][]byte{
			{128}, // there are no more bytes, or fewer than it takes
			{128 | whole[i], 0},
			{128 | whole[i], 128, 0},
			{255, 255, 255, 255, 255, 255, 255, 255, 255, 2},
			{255, 255, 255, 255, 255, 255, 255, 255, 255, 255, 1},
			{255, 255, 255, 255, 255, 255, 255, 255, 255, 1},
			{128, 128, 128, 128, 128, 128, 128, 128, 128, 1},
			{128, 128, 128, 128, 128, 128, 128, 128, 17}, // above MaxNumber
		} {
			noPart(t, append(bytes.Clone(whole[:i]), n...)...)
			noPart(t, slices.Concat(whole[:i], n, whole[i+1:])...)
		}
	}
	// One more than MaxList: it would be too many hops, too.
	long := payloadOf(api.Part{Workers: 1, N: 1, Out: hops(many(api.MaxList+1, hop(0, 0))), In: hops(nil)})
	noPart(t, long...)
	// A gap that goes round the 64 bits to a vertex that is there.
	round := binary.AppendUvarint([]byte{0, 1, 2, 2, 1}, math.MaxUint64)
	noPart(t, append(round, 0, 0, 0)...)
}

// P7.2: a worker not below workers, workers not from 1 to MaxWorkers, an N above MaxVertices.
func TestOpenHeadRefused(t *testing.T) {
	noPart(t)
	for w := range 12 {
		for workers := range 12 {
			for _, n := range []int{0, 1, 9, 199, 200, 201, 255, 256, 65536} {
				mine := 0
				if workers > 0 {
					mine = max(0, (n-w+workers-1)/workers)
				}
				mine = min(mine, api.MaxFrame/4) // of far too many vertices not all have room
				p := api.Part{Worker: w, Workers: workers, N: n, Out: make([][]api.Hop, mine), In: make([][]api.Hop, mine)}
				if w < workers && workers <= 8 && n <= 200 {
					opens(t, payloadOf(p), p)
				} else {
					noPart(t, payloadOf(p)...)
				}
			}
		}
	}
	for _, big := range []uint64{1 << 31, 1 << 32, 1<<32 + 1, 1 << 40, 1 << 63, math.MaxUint64} {
		n := binary.AppendUvarint(nil, big)
		noPart(t, append(bytes.Clone(n), 1, 0)...)
		noPart(t, append(append([]byte{0}, n...), 0)...)
		noPart(t, append([]byte{0, 1}, n...)...)
	}
}

// P7.2: a To not below N, forward and back, of the first hop and of a later one.
func TestOpenToRefused(t *testing.T) {
	noPart(t, 0, 1, 1, 1, 1, 0, 0)
	noPart(t, 0, 1, 1, 0, 1, 1, 0)
	noPart(t, 0, 1, 1, 2, 0, 1, 0, 0, 0)
	noPart(t, 0, 1, 1, 0, 2, 0, 1, 0, 0)
	noPart(t, 0, 1, 1, 2, 1, 0, 0, 0, 0)
	noPart(t, 1, 2, 2, 0, 1, 2, 0)
	noPart(t, 0, 8, 200, 1, 1, 200, 1, 0, 0)
}

// P7.2: a Weight above MaxWeight.
func TestOpenWeightRefused(t *testing.T) {
	for _, weight := range []uint64{api.MaxWeight + 1, 1 << 41, 1 << 60, 1 << 63, math.MaxUint64} {
		n := binary.AppendUvarint(nil, weight)
		noPart(t, slices.Concat([]byte{0, 1, 1, 1, 0}, n, []byte{0})...)
		noPart(t, slices.Concat([]byte{0, 1, 1, 0, 1, 0}, n)...)
		noPart(t, slices.Concat([]byte{0, 1, 1, 2, 0, 0, 1}, n, []byte{0})...)
	}
}

// P7.2: of hops to one vertex a Weight below the one ahead; of hops to several it may be.
func TestOpenWeightsOrder(t *testing.T) {
	noPart(t, 0, 1, 1, 2, 0, 0, 1, 0, 0)
	noPart(t, 0, 1, 1, 0, 2, 0, 0, 1, 0)
	noPart(t, 0, 2, 2, 3, 0, 1, 0, 9, 8, 7, 0)
	noPart(t, 0, 2, 2, 3, 0, 0, 1, 9, 8, 9, 0)
	opens(t, []byte{0, 2, 2, 3, 0, 1, 0, 9, 7, 8, 0}, api.Part{
		Workers: 2, N: 2, Out: hops([]api.Hop{hop(0, 9), hop(1, 7), hop(1, 8)}), In: hops(nil),
	})
}

// P7.2: more than MaxEdges hops forward, or back, in all.
func TestOpenTooMany(t *testing.T) {
	l := many(api.MaxEdges+1, hop(0, 0))
	noPart(t, payloadOf(api.Part{Workers: 1, N: 1, Out: hops(l), In: hops(nil)})...)
	noPart(t, payloadOf(api.Part{Workers: 1, N: 1, Out: hops(nil), In: hops(l)})...)
	half := l[:api.MaxEdges/2+1]
	noPart(t, payloadOf(api.Part{Workers: 1, N: 2, Out: hops(half, half), In: hops(nil, nil)})...)
	noPart(t, payloadOf(api.Part{Workers: 1, N: 2, Out: hops(nil, nil), In: hops(half, half)})...)
}

// P7.2: bytes behind the last one.
func TestOpenBehindLast(t *testing.T) {
	noPart(t, 0, 1, 0, 0)
	noPart(t, 0, 1, 0, 0, 0)
	noPart(t, 1, 2, 1, 0, 0)
	noPart(t, 0, 1, 1, 0, 0, 0)
	noPart(t, 0, 1, 1, 0, 0, 128)
}

// P7.2: all short payloads of small numbers, and each byte laid into a part's payload, as a plain model tells.
func TestOpenAsModel(t *testing.T) {
	for size := range 9 {
		payload := make([]byte, size)
		for {
			asModel(t, payload)
			i := 0
			for i < size && payload[i] == 2 {
				payload[i] = 0
				i++
			}
			if i == size {
				break
			}
			payload[i]++
		}
	}
	d := die(3)
	for range 40 {
		g := d.graph(4, 6)
		workers := 1 + d.n(3)
		payload := payloadOf(partOf(g, d.n(workers), workers))
		for i := range payload {
			for x := range 256 {
				c := bytes.Clone(payload)
				c[i] = byte(x)
				asModel(t, c)
			}
			asModel(t, slices.Delete(bytes.Clone(payload), i, i+1))
			asModel(t, slices.Insert(bytes.Clone(payload), i, byte(d.n(3))))
		}
	}
}

// P7.1, P7.2: drawn graphs: what is built is as packed by hand, and is opened again as it was.
func TestBuiltIsOpened(t *testing.T) {
	d := die(1)
	l := []api.Graph{{}, graphOf(1), graphOf(api.MaxVertices), full()}
	for range 400 {
		l = append(l, d.graph(1+d.n(30), d.n(60)))
	}
	for range 20 {
		l = append(l, d.graph(api.MaxVertices, api.MaxEdges))
	}
	for _, g := range l {
		workers := 1 + d.n(api.MaxWorkers)
		for w := range workers {
			want := partOf(g, w, workers)
			builds(t, g, w, workers, payloadOf(want)...)
			b, _ := Build(g, w, workers)
			if got, e := Open(b); e != api.OK || !samePart(got, want) {
				t.Errorf("Open of Build %s %d %d = %s %d, want %s", tell(g), w, workers, tell(got), e, tell(want))
			}
		}
	}
}

// What comes of P7.1 and P7.2: all parts together have each edge once forward and once back.
func TestPartsTogether(t *testing.T) {
	d := die(2)
	order := func(a, b api.Edge) int {
		return cmp.Or(a.From-b.From, a.To-b.To, a.Weight-b.Weight)
	}
	for range 300 {
		g := d.graph(30, 80)
		workers := 1 + d.n(api.MaxWorkers)
		var forward, back []api.Edge
		for w := range workers {
			b, _ := Build(g, w, workers)
			p, e := Open(b)
			if e != api.OK {
				t.Fatalf("Open of Build %s %d %d: %d", tell(g), w, workers, e)
			}
			for i := range p.Out {
				v := w + i*workers
				for _, h := range p.Out[i] {
					forward = append(forward, edge(v, h.To, h.Weight))
				}
				for _, h := range p.In[i] {
					back = append(back, edge(h.To, v, h.Weight))
				}
			}
		}
		want := slices.Clone(g.Edges)
		for _, l := range [][]api.Edge{want, forward, back} {
			slices.SortFunc(l, order)
		}
		if !slices.Equal(forward, want) || !slices.Equal(back, want) {
			t.Errorf("the %d parts of %s have forward %s, back %s", workers, tell(g), tell(forward), tell(back))
		}
	}
}

// P7.1, P7.2: no argument is changed, its spare room neither.
func TestArgumentsStay(t *testing.T) {
	room := []api.Edge{edge(2, 1, 5), edge(0, 2, 3), edge(0, 1, 3), edge(-7, -7, -7), edge(-8, -8, -8)}
	was := slices.Clone(room)
	b, e := Build(api.Graph{N: 3, Edges: room[:3]}, 0, 2)
	if e != api.OK || !slices.Equal(room, was) {
		t.Errorf("Build: %d, and the edges are %v", e, room)
	}
	more := append(bytes.Clone(b), 1, 2, 3, 4)
	kept := bytes.Clone(more)
	for _, l := range [][]byte{more[:len(b)], more, more[:3]} {
		Open(l)
		if !bytes.Equal(more, kept) {
			t.Errorf("Open: the bytes are %v, were %v", more, kept)
		}
	}
}

// scribble over a list of hops and its spare room.
func scribble(l []api.Hop) {
	l = l[:cap(l)]
	for i := range l {
		l[i] = hop(-9, -9)
	}
}

// P7.1, P7.2: what comes out is new memory, and no two lists of it share any.
func TestAnswersShareNothing(t *testing.T) {
	g := graphOf(4, edge(0, 1, 2), edge(0, 1, 3), edge(1, 1, 4), edge(3, 0, 5), edge(2, 2, 6), edge(2, 0, 1))
	b, _ := Build(g, 0, 1)
	first := bytes.Clone(b)
	clear(b[:cap(b)])
	if again, _ := Build(g, 0, 1); !bytes.Equal(again, first) {
		t.Errorf("Build: %v, was %v", again, first)
	}
	want := partOf(g, 0, 1)
	for at := range 8 {
		c := bytes.Clone(first)
		p, _ := Open(c)
		clear(c[:cap(c)])
		lists := append(slices.Clone(p.Out), p.In...)
		scribble(lists[at])
		wanted := append(slices.Clone(want.Out), want.In...)
		for i := range lists {
			if i != at && !slices.Equal(lists[i], wanted[i]) {
				t.Errorf("Open: the list %d is %v when %d was written over, want %v", i, lists[i], at, wanted[i])
			}
		}
	}
	p, _ := Open(first)
	q, _ := Open(first)
	clear(p.Out[:cap(p.Out)])
	if !samePart(q, want) || !sameHops(p.In, want.In) {
		t.Errorf("Open: %v and %v, want %v", p, q, want)
	}
}
