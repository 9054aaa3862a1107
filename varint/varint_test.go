package varint

import (
	"bytes"
	"encoding/binary"
	"math"
	"slices"
	"testing"

	"paceline/api"
)

// join lays bytes one behind the other.
func join(l ...[]byte) []byte { return bytes.Join(l, nil) }

func repeat(x byte, n int) []byte { return bytes.Repeat([]byte{x}, n) }

// edges: numbers at which the count of bytes changes, and their neighbours.
func edges() []uint64 {
	l := []uint64{0, 1, 300, math.MaxInt64, math.MaxUint64 - 1, math.MaxUint64}
	for bits := 7; bits < 64; bits += 7 {
		n := uint64(1) << bits
		l = append(l, n-1, n, n+1)
	}
	return l
}

// P1.1
func TestPut(t *testing.T) {
	for _, c := range []struct {
		n    uint64
		want []byte
	}{
		{0, []byte{0}},
		{1, []byte{1}},
		{127, []byte{127}},
		{128, []byte{128, 1}},
		{300, []byte{172, 2}},
		{16383, []byte{255, 127}},
		{16384, []byte{128, 128, 1}},
		{1<<63 - 1, join(repeat(255, 8), []byte{127})},
		{1 << 63, join(repeat(128, 9), []byte{1})},
		{math.MaxUint64, join(repeat(255, 9), []byte{1})},
	} {
		if got := Put(c.n); !bytes.Equal(got, c.want) {
			t.Errorf("Put(%d) = %v, want %v", c.n, got, c.want)
		}
	}
}

// P1.1: the library's numbers of seven bits a byte have the same form.
func TestPutAtEveryLength(t *testing.T) {
	for _, n := range edges() {
		if got, want := Put(n), binary.AppendUvarint(nil, n); !bytes.Equal(got, want) {
			t.Errorf("Put(%d) = %v, want %v", n, got, want)
		}
	}
}

type getCase struct {
	b    []byte
	n    uint64
	used int
	e    api.Errno
}

func (c getCase) check(t *testing.T) {
	t.Helper()
	n, used, e := Get(c.b)
	if n != c.n || used != c.used || e != c.e {
		t.Errorf("Get(%v) = %d %d %d, want %d %d %d", c.b, n, used, e, c.n, c.used, c.e)
	}
}

// P1.2
func TestGet(t *testing.T) {
	for _, c := range []getCase{
		{[]byte{0}, 0, 1, api.OK},
		{[]byte{127}, 127, 1, api.OK},
		{[]byte{128, 1}, 128, 2, api.OK},
		{[]byte{172, 2}, 300, 2, api.OK},
		{[]byte{128, 128, 1}, 16384, 3, api.OK},
		{[]byte{0, 0}, 0, 1, api.OK},
		{[]byte{5, 255}, 5, 1, api.OK},
		{[]byte{172, 2, 128, 0}, 300, 2, api.OK},
		{join(repeat(255, 8), []byte{127}), 1<<63 - 1, 9, api.OK},
		{join(repeat(128, 9), []byte{1}), 1 << 63, 10, api.OK},
		{join(repeat(255, 9), []byte{1}), math.MaxUint64, 10, api.OK},
		{join(repeat(255, 9), []byte{1, 255, 0}), math.MaxUint64, 10, api.OK},
	} {
		c.check(t)
	}
}

// P1.2: each error, and which one is answered where several apply.
func TestGetRefuses(t *testing.T) {
	for _, c := range []getCase{
		{nil, 0, 0, api.ErrShort},
		{[]byte{}, 0, 0, api.ErrShort},
		{[]byte{128}, 0, 0, api.ErrShort},
		{[]byte{255, 255}, 0, 0, api.ErrShort},
		{repeat(128, 9), 0, 0, api.ErrShort},
		{repeat(255, 9), 0, 0, api.ErrShort},
		{[]byte{128, 0}, 0, 0, api.ErrForm},
		{[]byte{255, 0}, 0, 0, api.ErrForm},
		{[]byte{129, 128, 0, 5}, 0, 0, api.ErrForm},
		{join(repeat(255, 8), []byte{0}), 0, 0, api.ErrForm},
		{join(repeat(255, 9), []byte{0}), 0, 0, api.ErrForm},
		{join(repeat(128, 9), []byte{2}), 0, 0, api.ErrOver},
		{join(repeat(255, 9), []byte{2}), 0, 0, api.ErrOver},
		{join(repeat(255, 9), []byte{127}), 0, 0, api.ErrOver},
		{join(repeat(128, 9), []byte{129, 1}), 0, 0, api.ErrOver},
		{repeat(128, 10), 0, 0, api.ErrOver}, // and it ends too early
		{repeat(255, 10), 0, 0, api.ErrOver},
		{join(repeat(128, 10), []byte{0}), 0, 0, api.ErrOver}, // and it is too long
		{repeat(128, 1000), 0, 0, api.ErrOver},
	} {
		c.check(t)
	}
}

// wantGet says P1.2 once more, in another way: it cuts first, and looks at the errors one by one.
func wantGet(b []byte) getCase {
	end := slices.IndexFunc(b, func(x byte) bool { return x < 128 })
	looked := len(b)
	if end >= 0 {
		looked = end + 1
	}
	switch {
	case looked >= 10 && b[9] > 1:
		return getCase{b, 0, 0, api.ErrOver}
	case end < 0:
		return getCase{b, 0, 0, api.ErrShort}
	case b[end] == 0 && end > 0:
		return getCase{b, 0, 0, api.ErrForm}
	}
	n, used := binary.Uvarint(b)
	return getCase{b, n, used, api.OK}
}

// P1.2: all short rows of bytes, and all short ends behind bytes that go on.
func TestGetAtAllRows(t *testing.T) {
	few := []byte{0, 1, 2, 127, 128, 129, 255}
	for lead := range 12 {
		wantGet(repeat(170, lead)).check(t)
		for _, x := range few {
			for _, y := range few {
				for _, z := range few {
					wantGet(join(repeat(170, lead), []byte{x, y, z})).check(t)
				}
			}
		}
	}
	for x := range 256 {
		wantGet([]byte{byte(x)}).check(t)
		for y := range 256 {
			wantGet([]byte{byte(x), byte(y)}).check(t)
		}
	}
}

// P1.1, P1.2: what was put is got, whatever stands behind it; what it ends short of is refused.
func TestPutThenGet(t *testing.T) {
	for _, n := range edges() {
		b := Put(n)
		getCase{b, n, len(b), api.OK}.check(t)
		getCase{join(b, []byte{128}), n, len(b), api.OK}.check(t)
		for cut := range b {
			getCase{b[:cut], 0, 0, api.ErrShort}.check(t)
		}
	}
}

// P1.3, P1.4
func TestZigAndZag(t *testing.T) {
	for _, c := range []struct {
		n int
		u uint64
	}{
		{0, 0},
		{-1, 1},
		{1, 2},
		{-2, 3},
		{2, 4},
		{-64, 127},
		{64, 128},
		{1 << 62, 1 << 63},
		{-1<<62 - 1, 1<<63 + 1},
		{math.MaxInt64 - 1, math.MaxUint64 - 3},
		{math.MinInt64 + 1, math.MaxUint64 - 2},
		{math.MaxInt64, math.MaxUint64 - 1},
		{math.MinInt64, math.MaxUint64},
	} {
		if got := Zig(c.n); got != c.u {
			t.Errorf("Zig(%d) = %d, want %d", c.n, got, c.u)
		}
		if got := Zag(c.u); got != c.n {
			t.Errorf("Zag(%d) = %d, want %d", c.u, got, c.n)
		}
	}
}

// P1.4: Zag is Zig's way back, and Zig is Zag's.
func TestZagOfZig(t *testing.T) {
	for _, u := range edges() {
		if got := Zig(Zag(u)); got != u {
			t.Errorf("Zig(Zag(%d)) = %d", u, got)
		}
		for _, n := range []int{int(u), -int(u)} {
			if got := Zag(Zig(n)); got != n {
				t.Errorf("Zag(Zig(%d)) = %d", n, got)
			}
		}
	}
}

// same: a list of so many of one number.
func same(n, count int) []int { return slices.Repeat([]int{n}, count) }

// P1.5
func TestGaps(t *testing.T) {
	top := Put(api.MaxNumber)
	for _, c := range []struct {
		l    []int
		want []byte
	}{
		{nil, []byte{0}},
		{[]int{}, []byte{0}},
		{[]int{0}, []byte{1, 0}},
		{[]int{3, 3, 10}, []byte{3, 3, 0, 7}},
		{[]int{0, 0, 0}, []byte{3, 0, 0, 0}},
		{[]int{127, 255, 555}, []byte{3, 127, 128, 1, 172, 2}},
		{[]int{api.MaxNumber}, join([]byte{1}, top)},
		{[]int{0, api.MaxNumber, api.MaxNumber}, join([]byte{3, 0}, top, []byte{0})},
		{same(0, 128), join([]byte{128, 1}, repeat(0, 128))},
		{same(5, api.MaxList), join([]byte{208, 15, 5}, repeat(0, api.MaxList-1))},
	} {
		got, e := Gaps(c.l)
		if !bytes.Equal(got, c.want) || e != api.OK {
			t.Errorf("Gaps(%v) = %v %d, want %v", c.l, got, e, c.want)
		}
	}
}

// P1.5: each error, and which one is answered where several apply.
func TestGapsRefuses(t *testing.T) {
	const over = api.MaxNumber + 1
	for _, c := range []struct {
		l    []int
		want api.Errno
	}{
		{same(0, api.MaxList+1), api.ErrSize},
		{same(-1, api.MaxList+1), api.ErrSize},
		{append(same(2, api.MaxList), 1), api.ErrSize},
		{[]int{-1}, api.ErrRange},
		{[]int{math.MinInt64}, api.ErrRange},
		{[]int{over}, api.ErrRange},
		{[]int{0, math.MaxInt64}, api.ErrRange},
		{[]int{1, 2, over}, api.ErrRange},
		{[]int{5, -1}, api.ErrRange},       // and below the one ahead
		{[]int{2, 1, over}, api.ErrRange},  // behind one that is below the one ahead
		{[]int{2, 1, 3, -4}, api.ErrRange}, // likewise
		{[]int{math.MaxInt64, math.MinInt64}, api.ErrRange},
		{append(same(2, api.MaxList-1), -1), api.ErrRange},
		{[]int{2, 1}, api.ErrForm},
		{[]int{0, 5, 5, 4}, api.ErrForm},
		{[]int{api.MaxNumber, 0}, api.ErrForm},
		{append(same(2, api.MaxList-1), 1), api.ErrForm},
	} {
		got, e := Gaps(c.l)
		if len(got) != 0 || e != c.want {
			t.Errorf("Gaps(%v) = %v %d, want %d", c.l, got, e, c.want)
		}
	}
}

type ungapCase struct {
	b    []byte
	l    []int
	used int
	e    api.Errno
}

func (c ungapCase) check(t *testing.T) {
	t.Helper()
	l, used, e := Ungap(c.b)
	if !slices.Equal(l, c.l) || used != c.used || e != c.e {
		t.Errorf("Ungap(%v) = %v %d %d, want %v %d %d", c.b, l, used, e, c.l, c.used, c.e)
	}
}

// P1.6
func TestUngap(t *testing.T) {
	top := Put(api.MaxNumber)
	for _, c := range []ungapCase{
		{[]byte{0}, nil, 1, api.OK},
		{[]byte{0, 128, 0}, nil, 1, api.OK},
		{[]byte{1, 0}, []int{0}, 2, api.OK},
		{[]byte{3, 3, 0, 7}, []int{3, 3, 10}, 4, api.OK},
		{[]byte{3, 3, 0, 7, 9}, []int{3, 3, 10}, 4, api.OK},
		{[]byte{3, 127, 128, 1, 172, 2, 255}, []int{127, 255, 555}, 6, api.OK},
		{join([]byte{1}, top), []int{api.MaxNumber}, 1 + len(top), api.OK},
		{join([]byte{3, 0}, top, []byte{0}), []int{0, api.MaxNumber, api.MaxNumber}, 3 + len(top), api.OK},
		{join([]byte{2, 1}, Put(api.MaxNumber-1)), []int{1, api.MaxNumber}, 2 + len(Put(api.MaxNumber-1)), api.OK},
		{join([]byte{208, 15, 5}, repeat(0, api.MaxList-1)), same(5, api.MaxList), api.MaxList + 2, api.OK},
	} {
		c.check(t)
	}
}

// P1.6: each error of Get, of how many and of each number, when its turn comes.
func TestUngapRefusesWhatGetRefuses(t *testing.T) {
	long := join(repeat(255, 9), []byte{2})
	for _, c := range []ungapCase{
		{nil, nil, 0, api.ErrShort},
		{[]byte{}, nil, 0, api.ErrShort},
		{[]byte{131}, nil, 0, api.ErrShort},
		{[]byte{131, 0, 1, 1, 1}, nil, 0, api.ErrForm},
		{long, nil, 0, api.ErrOver},
		{[]byte{1}, nil, 0, api.ErrShort},
		{[]byte{3, 1, 1}, nil, 0, api.ErrShort},
		{[]byte{2, 1, 128}, nil, 0, api.ErrShort},
		{[]byte{2, 128, 0, 1}, nil, 0, api.ErrForm},
		{[]byte{3, 1, 1, 129, 0}, nil, 0, api.ErrForm},
		{join([]byte{2}, long, []byte{1}), nil, 0, api.ErrOver},
		{join([]byte{2, 1}, long), nil, 0, api.ErrOver},
		{join([]byte{2, 128, 0}, long), nil, 0, api.ErrForm},         // the first one's turn is ahead
		{join([]byte{2}, long, []byte{128, 0}), nil, 0, api.ErrOver}, // likewise
		{join([]byte{208, 15}, repeat(0, api.MaxList-1)), nil, 0, api.ErrShort},
	} {
		c.check(t)
	}
}

// P1.6: the bounds of how many and of the numbers, and what is answered where more is wrong.
func TestUngapRefusesBeyondBounds(t *testing.T) {
	top, over := Put(api.MaxNumber), Put(api.MaxNumber+1)
	greatest := Put(math.MaxUint64)
	for _, c := range []ungapCase{
		{[]byte{209, 15}, nil, 0, api.ErrSize}, // though no number stands behind it
		{[]byte{209, 15, 128, 0}, nil, 0, api.ErrSize},
		{join([]byte{209, 15}, over), nil, 0, api.ErrSize},
		{join([]byte{209, 15}, repeat(0, api.MaxList+1)), nil, 0, api.ErrSize},
		{greatest, nil, 0, api.ErrSize},
		{Put(1 << 63), nil, 0, api.ErrSize},
		{Put(1<<32 + 1), nil, 0, api.ErrSize},
		{join([]byte{1}, over), nil, 0, api.ErrRange},
		{join([]byte{1}, Put(1<<63)), nil, 0, api.ErrRange},
		{join([]byte{1}, greatest), nil, 0, api.ErrRange},
		{join([]byte{2}, top, []byte{1}), nil, 0, api.ErrRange},
		{join([]byte{2, 1}, top), nil, 0, api.ErrRange},
		{join([]byte{2, 1}, greatest), nil, 0, api.ErrRange},          // the sum goes round to 0
		{join([]byte{2, 5}, Put(1<<63)), nil, 0, api.ErrRange},        // the sum has the bit of the sign
		{join([]byte{3, 0}, over), nil, 0, api.ErrRange},              // and it ends too early
		{join([]byte{2}, over, []byte{128, 0}), nil, 0, api.ErrRange}, // the first one's turn is ahead
		{join([]byte{2, 128, 0}, over), nil, 0, api.ErrForm},          // likewise
	} {
		c.check(t)
	}
}

// P1.5, P1.6: lists are had again, whatever stands behind them; what they end short of is refused.
func TestGapsThenUngap(t *testing.T) {
	rising := make([]int, api.MaxList)
	for i := range rising {
		rising[i] = i * i * i
	}
	for _, l := range [][]int{nil, {0}, {7, 7, 9}, {0, 1 << 31, 1 << 32, 1 << 59, api.MaxNumber}, rising} {
		b, e := Gaps(l)
		if e != api.OK {
			t.Fatalf("Gaps(%v) is refused: %d", l, e)
		}
		ungapCase{b, l, len(b), api.OK}.check(t)
		ungapCase{join(b, []byte{128, 0}), l, len(b), api.OK}.check(t)
		for cut := range b {
			ungapCase{b[:cut], nil, 0, api.ErrShort}.check(t)
		}
	}
}

// What is handed in stays as it was, its spare room too, and is no part of an answer.
func TestArgumentsStay(t *testing.T) {
	b := []byte{3, 3, 0, 7, 99, 99}
	Get(b[:1])
	out, _, _ := Ungap(b[:4])
	out[0] = 50
	if !bytes.Equal(b, []byte{3, 3, 0, 7, 99, 99}) {
		t.Errorf("the bytes became %v", b)
	}
	l := []int{3, 3, 10, 99, 99}
	Gaps(l[:3])
	if !slices.Equal(l, []int{3, 3, 10, 99, 99}) {
		t.Errorf("the list became %v", l)
	}
}

// spoil writes over a list and over its spare room.
func spoil[T byte | int](l []T) {
	l = l[:cap(l)]
	for i := range l {
		l[i] = 77
	}
}

// No two answers share memory, spare room neither.
func TestAnswersShareNothing(t *testing.T) {
	p, q := Put(300), Put(300)
	spoil(p)
	if !bytes.Equal(q, []byte{172, 2}) || !bytes.Equal(Put(300), q) {
		t.Errorf("Put(300) hangs on an answer that was written over: %v", q)
	}
	g, _ := Gaps([]int{3, 3, 10})
	h, _ := Gaps([]int{3, 3, 10})
	spoil(g)
	if !bytes.Equal(h, []byte{3, 3, 0, 7}) {
		t.Errorf("Gaps hangs on an answer that was written over: %v", h)
	}
	u, _, _ := Ungap(h)
	v, _, _ := Ungap(h)
	spoil(u)
	if !slices.Equal(v, []int{3, 3, 10}) {
		t.Errorf("Ungap hangs on an answer that was written over: %v", v)
	}
}
