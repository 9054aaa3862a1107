package owner

import (
	"fmt"
	"math"
	"slices"
	"testing"

	"paceline/api"
)

// tell in short what was answered: lists may be long.
func tell(x any) string { return fmt.Sprintf("%.200s", fmt.Sprint(x)) }

func of(t *testing.T, v, n, workers, want int) {
	t.Helper()
	if got, e := Of(v, n, workers); e != api.OK || got != want {
		t.Errorf("Of %d %d %d = %d %d, want %d", v, n, workers, got, e, want)
	}
}

func mine(t *testing.T, w, n, workers int, want ...int) {
	t.Helper()
	if got, e := Mine(w, n, workers); e != api.OK || !slices.Equal(got, want) {
		t.Errorf("Mine %d %d %d = %s %d, want %s", w, n, workers, tell(got), e, tell(want))
	}
}

func place(t *testing.T, v, n, workers, want int) {
	t.Helper()
	if got, e := Place(v, n, workers); e != api.OK || got != want {
		t.Errorf("Place %d %d %d = %d %d, want %d", v, n, workers, got, e, want)
	}
}

// noOf: the vertex is refused with that error, and no worker is answered.
func noOf(t *testing.T, v, n, workers int, want api.Errno) {
	t.Helper()
	if got, e := Of(v, n, workers); e != want || got != 0 {
		t.Errorf("Of %d %d %d = %d %d, want 0 %d", v, n, workers, got, e, want)
	}
}

// noMine: the worker is refused with that error, and no vertex is answered.
func noMine(t *testing.T, w, n, workers int, want api.Errno) {
	t.Helper()
	if got, e := Mine(w, n, workers); e != want || len(got) != 0 {
		t.Errorf("Mine %d %d %d = %s %d, want none, %d", w, n, workers, tell(got), e, want)
	}
}

// noPlace: the vertex is refused with that error, and no place is answered.
func noPlace(t *testing.T, v, n, workers int, want api.Errno) {
	t.Helper()
	if got, e := Place(v, n, workers); e != want || got != 0 {
		t.Errorf("Place %d %d %d = %d %d, want 0 %d", v, n, workers, got, e, want)
	}
}

// deal so many vertices out by hand, one by one: the vertices of each worker.
func deal(n, workers int) [][]int {
	hands := make([][]int, workers)
	turn := 0
	for v := range n {
		hands[turn] = append(hands[turn], v)
		if turn++; turn == workers {
			turn = 0
		}
	}
	return hands
}

// everyDeal: calls f with all numbers of vertices and workers that may be.
func everyDeal(f func(n, workers int)) {
	for n := range api.MaxVertices + 1 {
		for workers := 1; workers <= api.MaxWorkers; workers++ {
			f(n, workers)
		}
	}
}

// P6.1
func TestOf(t *testing.T) {
	for v, want := range []int{0, 1, 2, 0, 1, 2, 0} {
		of(t, v, 7, 3, want)
	}
	of(t, 0, 1, 1, 0)
	of(t, 0, 1, api.MaxWorkers, 0)
	of(t, 199, api.MaxVertices, 1, 0)
	of(t, 0, api.MaxVertices, api.MaxWorkers, 0)
	of(t, 7, api.MaxVertices, api.MaxWorkers, 7)
	of(t, 8, api.MaxVertices, api.MaxWorkers, 0)
	of(t, 199, api.MaxVertices, api.MaxWorkers, 7)
	of(t, 2, 3, api.MaxWorkers, 2)
}

// P6.2
func TestMine(t *testing.T) {
	mine(t, 0, 7, 3, 0, 3, 6)
	mine(t, 1, 7, 3, 1, 4)
	mine(t, 2, 7, 3, 2, 5)
	mine(t, 0, 4, 1, 0, 1, 2, 3)
	mine(t, 0, 1, 1, 0)
	mine(t, 0, 1, 2, 0)
	mine(t, 1, 1, 2)
	mine(t, 0, 0, 1)
	mine(t, 7, 0, api.MaxWorkers)
	mine(t, 7, 7, api.MaxWorkers)
	mine(t, 7, 8, api.MaxWorkers, 7)
	mine(t, 7, 24, api.MaxWorkers, 7, 15, 23)
	last, e := Mine(7, api.MaxVertices, api.MaxWorkers)
	if e != api.OK || len(last) != 25 || last[0] != 7 || last[24] != 199 {
		t.Errorf("Mine 7 of all = %v %d", last, e)
	}
	all, e := Mine(0, api.MaxVertices, 1)
	if e != api.OK || len(all) != api.MaxVertices || all[199] != 199 {
		t.Errorf("Mine 0 of all, alone = %s %d", tell(all), e)
	}
}

// P6.3
func TestPlace(t *testing.T) {
	for v, want := range []int{0, 0, 0, 1, 1, 1, 2} {
		place(t, v, 7, 3, want)
	}
	place(t, 0, 1, 1, 0)
	place(t, 0, 1, api.MaxWorkers, 0)
	place(t, 199, api.MaxVertices, 1, 199)
	place(t, 0, api.MaxVertices, api.MaxWorkers, 0)
	place(t, 7, api.MaxVertices, api.MaxWorkers, 0)
	place(t, 8, api.MaxVertices, api.MaxWorkers, 1)
	place(t, 199, api.MaxVertices, api.MaxWorkers, 24)
	place(t, 2, 3, api.MaxWorkers, 0)
}

// P6.1, P6.2, P6.3: numbers of vertices or workers that may not be are told ahead of all else.
func TestSizes(t *testing.T) {
	others := []int{math.MinInt, -201, -1, 0, 1, 5, 8, 199, 200, 201, math.MaxInt}
	refused := func(n, workers int) {
		for _, i := range others {
			noOf(t, i, n, workers, api.ErrSize)
			noMine(t, i, n, workers, api.ErrSize)
			noPlace(t, i, n, workers, api.ErrSize)
		}
	}
	for _, n := range []int{math.MinInt, math.MinInt + 1, -200, -1, api.MaxVertices + 1, 1000, math.MaxInt} {
		for _, workers := range []int{math.MinInt, -1, 0, 1, 4, api.MaxWorkers, api.MaxWorkers + 1, math.MaxInt} {
			refused(n, workers)
		}
	}
	for _, workers := range []int{math.MinInt, math.MinInt + 1, -8, -1, 0, api.MaxWorkers + 1, 100, math.MaxInt} {
		for _, n := range []int{math.MinInt, -1, 0, 1, 6, api.MaxVertices, api.MaxVertices + 1, math.MaxInt} {
			refused(n, workers)
		}
	}
}

// P6.1, P6.3: a vertex that is not there is refused by both, whatever the numbers.
func TestVertexOutside(t *testing.T) {
	everyDeal(func(n, workers int) {
		for _, v := range []int{math.MinInt, math.MinInt + 1, -n - 1, -workers, -1, n, n + 1, n + workers, math.MaxInt - 1, math.MaxInt} {
			noOf(t, v, n, workers, api.ErrRange)
			noPlace(t, v, n, workers, api.ErrRange)
		}
	})
}

// P6.2: a worker that is not there is refused, whether or not there is a vertex of that number.
func TestWorkerOutside(t *testing.T) {
	everyDeal(func(n, workers int) {
		for _, w := range []int{math.MinInt, math.MinInt + 1, -workers, -1, workers, workers + 1, api.MaxVertices, math.MaxInt - 1, math.MaxInt} {
			noMine(t, w, n, workers, api.ErrRange)
		}
	})
}

// P6.1, P6.2, P6.3: all numbers that may be, held against a deal by hand.
func TestAsDealt(t *testing.T) {
	everyDeal(func(n, workers int) {
		for w, hand := range deal(n, workers) {
			mine(t, w, n, workers, hand...)
			for i, v := range hand {
				of(t, v, n, workers, w)
				place(t, v, n, workers, i)
			}
		}
	})
}

// What comes of it: each vertex stands in the list of its worker alone, at its place.
func TestEachVertexOnce(t *testing.T) {
	everyDeal(func(n, workers int) {
		seen := make([]int, n)
		for w := range workers {
			l, _ := Mine(w, n, workers)
			for i, v := range l {
				if v < 0 || v >= n {
					t.Fatalf("Mine %d %d %d has %d", w, n, workers, v)
				}
				seen[v]++
				of(t, v, n, workers, w)
				place(t, v, n, workers, i)
			}
		}
		for v, times := range seen {
			if times != 1 {
				t.Errorf("of %d vertices and %d workers, %d stands in lists %d times", n, workers, v, times)
			}
		}
	})
}

// What comes of it: no worker has two vertices more than another.
func TestFair(t *testing.T) {
	everyDeal(func(n, workers int) {
		least, most := api.MaxVertices, 0
		for w := range workers {
			l, _ := Mine(w, n, workers)
			least, most = min(least, len(l)), max(most, len(l))
		}
		if most-least > 1 {
			t.Errorf("of %d vertices and %d workers, one has %d and one has %d", n, workers, least, most)
		}
	})
}

// P6.2: lists are new memory, their spare room too: what is done to one is seen in no other.
func TestListsAreNew(t *testing.T) {
	first, _ := Mine(1, 20, 3)
	for i := range first[:cap(first)] {
		first[:cap(first)][i] = -7
	}
	second, _ := Mine(1, 20, 3)
	if want := []int{1, 4, 7, 10, 13, 16, 19}; !slices.Equal(second, want) {
		t.Errorf("Mine once more = %v, want %v", second, want)
	}
	for i := range second[:cap(second)] {
		second[:cap(second)][i] = -8
	}
	for _, v := range first[:cap(first)] {
		if v != -7 {
			t.Errorf("Mine: two answers share memory: %v", first[:cap(first)])
		}
	}
}
