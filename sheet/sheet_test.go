package sheet

import (
	"fmt"
	"math"
	"math/big"
	"regexp"
	"slices"
	"strconv"
	"strings"
	"testing"

	"paceline/api"
	"paceline/graph"
)

// edge: one from a vertex to another one, with its weight.
func edge(from, to, weight int) api.Edge {
	return api.Edge{From: from, To: to, Weight: weight}
}

func graphOf(n int, l ...api.Edge) api.Graph { return api.Graph{N: n, Edges: l} }

// alike: so many edges of one kind.
func alike(n int, e api.Edge) []api.Edge { return slices.Repeat([]api.Edge{e}, n) }

func sameGraph(a, b api.Graph) bool { return a.N == b.N && slices.Equal(a.Edges, b.Edges) }

// tell in short what was handed in or answered: texts may be long.
func tell(x any) string { return fmt.Sprintf("%.200q", fmt.Sprint(x)) }

// pairs: this graph is shown as this text, and this text is read as this graph.
func pairs(t *testing.T, g api.Graph, want string) {
	t.Helper()
	if s, e := Show(g); e != api.OK || s != want {
		t.Errorf("Show %s = %s %d, want %s", tell(g), tell(s), e, tell(want))
	}
	if r, e := Read(want); e != api.OK || !sameGraph(r, g) {
		t.Errorf("Read %s = %s %d, want %s", tell(want), tell(r), e, tell(g))
	}
}

// noText: the graph is refused with that error, and no text is answered.
func noText(t *testing.T, g api.Graph, want api.Errno) {
	t.Helper()
	if s, e := Show(g); e != want || s != "" {
		t.Errorf("Show %s = %s %d, want nothing, %d", tell(g), tell(s), e, want)
	}
}

// noGraph: the texts are refused with that error, and no graph is answered.
func noGraph(t *testing.T, want api.Errno, texts ...string) {
	t.Helper()
	for _, s := range texts {
		if g, e := Read(s); e != want || g.N != 0 || len(g.Edges) != 0 {
			t.Errorf("Read %s = %s %d, want nothing, %d", tell(s), tell(g), e, want)
		}
	}
}

// P5.1, P5.2: ordinary graphs, and the document's example.
func TestPlain(t *testing.T) {
	pairs(t, graphOf(0), "0\n")
	pairs(t, graphOf(2, edge(0, 1, 7)), "2\n0 1 7\n")
	pairs(t, graphOf(3, edge(0, 1, 10), edge(1, 2, 200), edge(2, 0, 3)), "3\n0 1 10\n1 2 200\n2 0 3\n")
	pairs(t, graphOf(12, edge(10, 11, 100), edge(11, 10, 1000000)), "12\n10 11 100\n11 10 1000000\n")
}

// P5.1, P5.2: no edges, and one; From and To at both ends, Weight at both bounds.
func TestBounds(t *testing.T) {
	pairs(t, api.Graph{Edges: []api.Edge{}}, "0\n")
	pairs(t, graphOf(1), "1\n")
	pairs(t, graphOf(10), "10\n")
	pairs(t, graphOf(api.MaxVertices), "200\n")
	pairs(t, graphOf(1, edge(0, 0, 0)), "1\n0 0 0\n")
	pairs(t, graphOf(1, edge(0, 0, api.MaxWeight)), "1\n0 0 1099511627776\n")
	pairs(t, graphOf(api.MaxVertices, edge(0, 199, 0), edge(199, 0, api.MaxWeight)), "200\n0 199 0\n199 0 1099511627776\n")
	pairs(t, graphOf(api.MaxVertices, edge(199, 199, 9)), "200\n199 199 9\n")
}

// P5.1, P5.2: MaxEdges edges, the shortest and the longest ones.
func TestManyEdges(t *testing.T) {
	pairs(t, graphOf(1, alike(api.MaxEdges, edge(0, 0, 0))...), "1\n"+strings.Repeat("0 0 0\n", api.MaxEdges))
	longest := edge(api.MaxVertices-1, api.MaxVertices-1, api.MaxWeight)
	pairs(t, graphOf(api.MaxVertices, alike(api.MaxEdges, longest)...), "200\n"+strings.Repeat("199 199 1099511627776\n", api.MaxEdges))
}

// P5.1, P5.2: edges as they stand, in whatever order, alike ones too.
func TestAsTheyStand(t *testing.T) {
	pairs(t, graphOf(3, edge(2, 0, 1), edge(0, 2, 5), edge(0, 2, 4), edge(0, 1, 9)), "3\n2 0 1\n0 2 5\n0 2 4\n0 1 9\n")
	pairs(t, graphOf(2, edge(1, 0, 5), edge(1, 0, 5), edge(0, 0, 1), edge(1, 0, 5)), "2\n1 0 5\n1 0 5\n0 0 1\n1 0 5\n")
}

// wrong edges of a graph with that many vertices.
func wrong(n int) []api.Edge {
	return []api.Edge{
		edge(n, 0, 0), edge(-1, 0, 0), edge(math.MaxInt, 0, 0), edge(math.MinInt, 0, 0),
		edge(0, n, 0), edge(0, -1, 0), edge(0, math.MaxInt, 0), edge(0, math.MinInt, 0),
		edge(0, 0, api.MaxWeight+1), edge(0, 0, -1), edge(0, 0, math.MaxInt), edge(0, 0, math.MinInt),
	}
}

// P5.1: a graph that is not right is refused with the error of P4.1, ErrSize ahead of ErrRange.
func TestShowRefuses(t *testing.T) {
	for _, n := range []int{-1, math.MinInt, api.MaxVertices + 1, math.MaxInt} {
		noText(t, graphOf(n), api.ErrSize)
		noText(t, graphOf(n, edge(-1, 0, 0)), api.ErrSize)
	}
	noText(t, graphOf(1, alike(api.MaxEdges+1, edge(0, 0, 0))...), api.ErrSize)
	noText(t, graphOf(1, alike(api.MaxEdges+1, edge(1, 1, -1))...), api.ErrSize)
	noText(t, graphOf(0, edge(0, 0, 0)), api.ErrRange)
	for _, n := range []int{1, 2, api.MaxVertices} {
		right := edge(n-1, n-1, api.MaxWeight)
		for _, w := range wrong(n) {
			noText(t, graphOf(n, w), api.ErrRange)
			noText(t, graphOf(n, right, w, right), api.ErrRange)
			noText(t, graphOf(n, append(alike(api.MaxEdges-1, right), w)...), api.ErrRange)
		}
	}
}

// P5.2: no text is too long up to MaxText bytes, and each one above; ErrSize is told ahead of ErrForm.
func TestReadSize(t *testing.T) {
	for _, piece := range []string{"0", "1", " ", "\n", "x", "0 0 0\n", "\x00", "\xff"} {
		s := strings.Repeat(piece, api.MaxText)
		noGraph(t, api.ErrForm, s[:api.MaxText], "1\n"+s[:api.MaxText-2], s[:api.MaxText-1])
		noGraph(t, api.ErrSize, s[:api.MaxText]+"\n", "1\n"+s[:api.MaxText-1], s+s)
	}
	// The length is told in bytes, not in runes.
	noGraph(t, api.ErrForm, strings.Repeat("é", api.MaxText/2))
	noGraph(t, api.ErrSize, strings.Repeat("é", api.MaxText/2+1))
}

// P5.2: lines and their ends.
func TestReadLines(t *testing.T) {
	noGraph(t, api.ErrForm,
		"", "\n", "\n\n", "0", "2", "2\n0 1 7", "2\n0 1 7\n1 0 7",
		"\n0\n", "0\n\n", "2\n\n0 1 7\n", "2\n0 1 7\n\n", "2\n0 1 7\n\n1 0 7\n", "2\n0 1 7\n\n\n",
		"\n2\n0 1 7\n", "2\r\n0 1 7\r\n", "2\n0 1 7\r\n", "2\r0 1 7\r", "0\r\n", "0\n\r",
		"2 0 1 7\n", "2\n0\n1\n7\n", "2\n0 1\n7\n", "2\n0\n1 7\n", "0 1 7\n2\n", "0 1 7\n",
		"2\n0 1 7\n2\n", "2\n2\n0 1 7\n", "2\n0 1 71 0 7\n", "2\n0 1 7 1 0 7\n",
		"0\n\x00", "\x000\n", "0\x00\n", "0\n ", "0\n0", "0\n#\n", "2\n0 1 7\nend\n", "\ufeff0\n",
	)
}

// P5.2: too few numbers in a line, and too many.
func TestReadCounts(t *testing.T) {
	noGraph(t, api.ErrForm,
		"2\n0\n", "2\n0 1\n", "2\n0 1 1 1\n", "2\n0 1 1 1 1 1\n",
		"1 1\n", "1 1 1\n", "0 0\n", "0 0 0\n", "0 0 0\n0 0 0\n",
		"2\n0 1 7\n0 1\n", "2\n0 1\n0 1 7\n", "2\n0 1 7 7\n0 1 7\n",
	)
}

// P5.2: blanks too many or lacking, and other bytes between two numbers.
func TestReadBlanks(t *testing.T) {
	noGraph(t, api.ErrForm,
		" 0\n", "0 \n", " \n", "2\n \n", "2\n  \n", "2\n   \n",
		"2\n 0 1 7\n", "2\n0  1 7\n", "2\n0 1  7\n", "2\n0 1 7 \n", "2\n0 17\n", "2\n017\n", "2\n01 7\n",
		"2 \n0 1 7\n", " 2\n0 1 7\n", "2\n0 1 7\n ", "2\n0 1 7\n \n",
		"2\n0\t1 7\n", "2\n0 1\t7\n", "2\n0,1,7\n", "2\n0, 1, 7\n", "2\n0\v1 7\n", "2\n0\f1 7\n",
		"2\n0\u00a01 7\n", "2\n0\u30001 7\n", "2\n0\x001 7\n", "2\n0;1;7\n", "2\n0-1-7\n",
		"2\t\n0 1 7\n", "\t2\n0 1 7\n", "2\n0 1 7\t\n",
	)
}

// P5.2: noughts ahead, signs, and what is no digit, at each place of a number.
func TestReadNumbers(t *testing.T) {
	for _, n := range []string{
		"", "00", "01", "001", "+0", "+1", "-0", "-1", "--1", "+-1", "1-", "1+", "0x1", "0b1", "0o1", "1_0", "_1", "1_",
		"1.0", "1.", ".1", "1e0", "1E0", "a", "A", "x", "0x", "inf", "nan", "/", ":", "1:", "/1", "\x00", "1\x00", "\xff", "1\xff", "\x80",
		"١", "１", "𝟏", "²", "½", "1'", "\"1\"", "(1)",
	} {
		noGraph(t, api.ErrForm, n+"\n", n+"\n0 0 0\n", "2\n"+n+" 1 1\n", "2\n1 "+n+" 1\n", "2\n1 1 "+n+"\n", "2\n0 0 0\n"+n+" 1 1\n")
	}
}

// P5.2: numbers that are too great for any graph, or for an int.
func TestReadGreatNumbers(t *testing.T) {
	for _, n := range []string{
		"1099511627777", "1099511627786", "10995116277760", "9223372036854775807", "9223372036854775808",
		"18446744073709551615", "18446744073709551616", "18446744073709551617", "36893488147419103232",
		"340282366920938463463374607431768211457", "1" + strings.Repeat("0", 1000), strings.Repeat("9", 19000),
	} {
		noGraph(t, api.ErrForm, n+"\n", n+"\n0 0 0\n", "2\n"+n+" 1 1\n", "2\n1 "+n+" 1\n", "2\n1 1 "+n+"\n", "2\n0 0 0\n1 1 "+n+"\n")
	}
	// The least int, and one less.
	noGraph(t, api.ErrForm, "-9223372036854775808\n", "2\n0 1 -9223372036854775808\n", "2\n0 1 -9223372036854775809\n")
}

// P5.2: numbers outside of what P4.1 allows.
func TestReadOutside(t *testing.T) {
	noGraph(t, api.ErrForm,
		"201\n", "201\n0 0 0\n", "1000\n", "-1\n",
		"0\n0 0 0\n", "1\n1 0 0\n", "1\n0 1 0\n", "1\n0 1 7\n", "2\n2 0 0\n", "2\n0 2 0\n", "2\n0 1 7\n0 2 7\n",
		"200\n200 0 0\n", "200\n0 200 0\n", "200\n199 199 1099511627777\n",
		"2\n-1 0 0\n", "2\n0 -1 0\n", "2\n0 0 -1\n",
	)
}

// P5.2: more than MaxEdges edges, and no error but ErrForm for them.
func TestReadTooManyEdges(t *testing.T) {
	for _, n := range []int{api.MaxEdges + 1, 2 * api.MaxEdges, (api.MaxText - 2) / 6} {
		noGraph(t, api.ErrForm, "1\n"+strings.Repeat("0 0 0\n", n), "0\n"+strings.Repeat("0 0 0\n", n))
	}
	noGraph(t, api.ErrForm, "1\n"+strings.Repeat("0 0 0\n", api.MaxEdges)+"0 0 0")
	noGraph(t, api.ErrSize, "1\n"+strings.Repeat("0 0 0\n", (api.MaxText-2)/6+1))
}

// form of a text, as the chapter says it, told by other means than the program's.
var form = regexp.MustCompile(`\A(?:0|[1-9][0-9]*)\n(?:(?:0|[1-9][0-9]*) (?:0|[1-9][0-9]*) (?:0|[1-9][0-9]*)\n)*\z`)

// model: the graph that a text tells, if there is one.
func model(s string) (api.Graph, api.Errno) {
	if len(s) > api.MaxText {
		return api.Graph{}, api.ErrSize
	}
	if !form.MatchString(s) {
		return api.Graph{}, api.ErrForm
	}
	var l []int
	for _, word := range strings.Fields(s) {
		n, _ := new(big.Int).SetString(word, 10)
		if !n.IsInt64() {
			return api.Graph{}, api.ErrForm
		}
		l = append(l, int(n.Int64()))
	}
	g := api.Graph{N: l[0]}
	for c := range slices.Chunk(l[1:], 3) {
		g.Edges = append(g.Edges, edge(c[0], c[1], c[2]))
	}
	if graph.Check(g) != api.OK {
		return api.Graph{}, api.ErrForm
	}
	return g, api.OK
}

// holds: Read answers what the model answers; and what is read is shown as it was.
func holds(t *testing.T, s string) api.Errno {
	t.Helper()
	want, f := model(s)
	g, e := Read(s)
	if e != f || !sameGraph(g, want) {
		t.Fatalf("Read %s = %s %d, want %s %d", tell(s), tell(g), e, tell(want), f)
	}
	if e == api.OK {
		if b, e := Show(g); e != api.OK || b != s {
			t.Fatalf("Read %s, then Show = %s %d", tell(s), tell(b), e)
		}
	}
	return e
}

// P5.2: every text of a few bytes, of those that matter.
func TestReadAllShortTexts(t *testing.T) {
	const letters = "01 \n-+"
	count := map[api.Errno]int{}
	var grow func(s string)
	grow = func(s string) {
		count[holds(t, s)]++
		if len(s) < 5 {
			for _, c := range letters {
				grow(s + string(c))
			}
		}
	}
	grow("")
	// The graphs with 0, 1, 10, 11, 100, 101, 110 and 111 vertices.
	if count[api.OK] != 8 || count[api.ErrSize] != 0 {
		t.Errorf("%v of the short texts were read, want 8", count)
	}
	// One edge, and every text that could follow it.
	for _, a := range letters {
		for _, b := range letters {
			for _, c := range letters {
				holds(t, "2\n0 1 "+string(a)+string(b)+string(c))
				holds(t, "2\n0"+string(a)+string(b)+string(c)+"1\n")
				holds(t, string(a)+string(b)+string(c)+"\n0 0 0\n")
			}
		}
	}
}

// P5.2: each single byte laid into a text, laid over one of its bytes, or taken away.
func TestReadEachByte(t *testing.T) {
	const s = "12\n0 11 10\n11 0 1099511627776\n"
	for i := range len(s) + 1 {
		for b := range 256 {
			holds(t, s[:i]+string([]byte{byte(b)})+s[i:])
			if i < len(s) {
				holds(t, s[:i]+string([]byte{byte(b)})+s[i+1:])
			}
		}
		holds(t, s[:i])
		holds(t, s[i:])
	}
}

// die: numbers that look drawn, the same each time.
type die uint64

func (d *die) n(most int) int {
	*d = *d*6364136223846793005 + 1442695040888963407
	return int(uint64(*d>>33) % uint64(most))
}

// graph that looks drawn, and is right.
func (d *die) graph(vertices, edges int) api.Graph {
	g := api.Graph{N: 1 + d.n(vertices)}
	for range d.n(edges + 1) {
		g.Edges = append(g.Edges, edge(d.n(g.N), d.n(g.N), d.n(2<<d.n(40))%(api.MaxWeight+1)))
	}
	return g
}

// spoil a text at a place.
func (d *die) spoil(s string) string {
	i := d.n(len(s))
	j := min(len(s), i+d.n(3))
	return s[:i] + []string{"", "", " ", "\n", "0", "1", "9", "-", "\t", "0 0 0\n", " 1"}[d.n(11)] + s[j:]
}

// P5.1: the text, put together anew.
func text(g api.Graph) string {
	s := fmt.Sprintf("%d\n", g.N)
	for _, e := range g.Edges {
		s += fmt.Sprintf("%d %d %d\n", e.From, e.To, e.Weight)
	}
	return s
}

// P5.1, P5.2: drawn graphs are shown as a plain writer shows them, and read as they were; spoilt texts are read as the model reads them.
func TestDrawn(t *testing.T) {
	d := die(1)
	count := map[api.Errno]int{}
	for range 3000 {
		g := d.graph(api.MaxVertices, 12)
		pairs(t, g, text(g))
		s := text(g)
		for range 4 {
			if s = d.spoil(s); s == "" {
				break
			}
			count[holds(t, s)]++
		}
	}
	if count[api.OK] < 500 || count[api.ErrForm] < 500 {
		t.Errorf("%v: too few of one kind", count)
	}
	for range 20 {
		g := d.graph(api.MaxVertices, api.MaxEdges)
		pairs(t, g, text(g))
	}
}

// P5.1: no call changes what is handed in, its spare room neither; right or not.
func TestShowChangesNothing(t *testing.T) {
	d := die(2)
	for i := range 200 {
		g := d.graph(9, 9)
		room := append(slices.Clone(g.Edges), alike(3, edge(7, 8, 9))...)
		if i%4 == 3 {
			room[0].Weight = -1
		}
		was := slices.Clone(room)
		Show(api.Graph{N: g.N, Edges: room[:len(g.Edges)]})
		if !slices.Equal(room, was) {
			t.Fatalf("Show changed %s to %s", tell(was), tell(room))
		}
	}
}

// P5.2: an answer is new memory, spare room too.
func TestReadNewMemory(t *testing.T) {
	const s = "3\n0 1 1\n1 2 2\n2 0 3\n"
	want := graphOf(3, edge(0, 1, 1), edge(1, 2, 2), edge(2, 0, 3))
	a, _ := Read(s)
	b, _ := Read(s)
	for l, i := a.Edges[:cap(a.Edges)], 0; i < len(l); i++ {
		l[i] = edge(5, 5, 5)
	}
	if !sameGraph(b, want) {
		t.Errorf("one answer was changed with another one: %s", tell(b))
	}
	if c, e := Read(s); e != api.OK || !sameGraph(c, want) {
		t.Errorf("Read %s = %s %d behind a change of an earlier answer", tell(s), tell(c), e)
	}
}

// P5.2: an error does not hang on what was read before.
func TestNothingKept(t *testing.T) {
	for i := range 3 {
		pairs(t, graphOf(2, edge(0, 1, i)), "2\n0 1 "+strconv.Itoa(i)+"\n")
		noGraph(t, api.ErrForm, "2\n0 2 1\n")
		noText(t, graphOf(2, edge(0, 2, 1)), api.ErrRange)
		pairs(t, graphOf(0), "0\n")
	}
}
