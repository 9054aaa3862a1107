package board

import (
	"fmt"
	"math"
	"slices"
	"testing"

	"paceline/api"
)

const top = 1 << 40 // the greatest epoch and the greatest number that is reported

// inside: numbers that an epoch and what is reported may be, the edges among them.
func inside() []int { return []int{0, 1, 2, 77, 1 << 31, 1 << 32, top - 1, top} }

// beyond: numbers that they may not be.
func beyond() []int {
	return []int{-1, -2, -1 << 32, -top, math.MinInt, math.MinInt + 1, top + 1, top + 2, 2 * top, 1 << 62, math.MaxInt}
}

func stepsInside() []int { return []int{0, 1, 9, api.MaxStep - 1, api.MaxStep} }

func stepsBeyond() []int {
	return []int{-1, -2, -api.MaxStep, math.MinInt, api.MaxStep + 1, api.MaxStep + 2, top, math.MaxInt}
}

func workersBeyond() []int {
	return []int{0, -1, -2, -api.MaxWorkers, math.MinInt, api.MaxWorkers + 1, api.MaxWorkers + 2, top, math.MaxInt}
}

func bare(workers, epoch, step int) api.Board {
	return api.Board{Workers: workers, Epoch: epoch, Step: step}
}

// sentTo: how much mail goes from a worker to another one, for each two another number.
func sentTo(from, to int) int { return 10*from + to + 1 }

// row of a worker: what it sent, and what it got when all has come. (A board may tell of more workers than memory holds.)
func row(w, workers int) (sent, got []int) {
	for other := range min(workers, 2*api.MaxWorkers) {
		sent = append(sent, sentTo(w, other))
		got = append(got, sentTo(other, w))
	}
	return sent, got
}

// report that may stand on a board; with one of each worker the round is over.
func report(b api.Board, w int) api.Report {
	r := api.Report{Worker: w, Epoch: b.Epoch, Step: b.Step, Waking: 100 + w, Open: 1 << w}
	r.Sent, r.Got = row(w, b.Workers)
	return r
}

// with reports of these workers, in that order.
func with(b api.Board, workers ...int) api.Board {
	l := slices.Clone(b.Reports)
	for _, w := range workers {
		l = append(l, report(b, w))
	}
	b.Reports = l
	return b
}

// upTo: the numbers below n.
func upTo(n int) []int {
	var l []int
	for i := range n {
		l = append(l, i)
	}
	return l
}

// full: a report of each worker, in their order.
func full(b api.Board) api.Board { return with(b, upTo(b.Workers)...) }

// changed: the board again, one of its reports changed in memory of its own.
func changed(b api.Board, place int, change func(r *api.Report)) api.Board {
	b = copyOf(b)
	change(&b.Reports[place])
	return b
}

func copyOf(b api.Board) api.Board {
	l := slices.Clone(b.Reports)
	for i := range l {
		l[i].Sent, l[i].Got = slices.Clone(l[i].Sent), slices.Clone(l[i].Got)
	}
	b.Reports = l
	return b
}

func sameReport(a, b api.Report) bool {
	return a.Worker == b.Worker && a.Epoch == b.Epoch && a.Step == b.Step && a.Waking == b.Waking && a.Open == b.Open &&
		slices.Equal(a.Sent, b.Sent) && slices.Equal(a.Got, b.Got)
}

func same(a, b api.Board) bool {
	return a.Workers == b.Workers && a.Epoch == b.Epoch && a.Step == b.Step && slices.EqualFunc(a.Reports, b.Reports, sameReport)
}

func zero(b api.Board) bool { return same(b, api.Board{}) }

// tell in short what was handed in or answered.
func tell(x any) string { return fmt.Sprintf("%.600s", fmt.Sprint(x)) }

func opens(t *testing.T, workers, epoch, step int) {
	t.Helper()
	if got, e := Open(workers, epoch, step); e != api.OK || !same(got, bare(workers, epoch, step)) {
		t.Errorf("Open %d %d %d = %s %d", workers, epoch, step, tell(got), e)
	}
}

func noOpen(t *testing.T, workers, epoch, step int) {
	t.Helper()
	if got, e := Open(workers, epoch, step); e != api.ErrRange || !zero(got) {
		t.Errorf("Open %d %d %d = %s %d, want none, ErrRange", workers, epoch, step, tell(got), e)
	}
}

// hears: the report stands behind all others, which stay as they are.
func hears(t *testing.T, b api.Board, r api.Report) {
	t.Helper()
	want := b
	want.Reports = append(slices.Clone(b.Reports), r)
	if got, e := Hear(b, r); e != api.OK || !same(got, want) {
		t.Errorf("Hear %s %s = %s %d, want %s", tell(b), tell(r), tell(got), e, tell(want))
	}
}

func noHear(t *testing.T, b api.Board, r api.Report, want api.Errno) {
	t.Helper()
	if got, e := Hear(b, r); e != want || !zero(got) {
		t.Errorf("Hear %s %s = %s %d, want none, %d", tell(b), tell(r), tell(got), e, want)
	}
}

func ready(t *testing.T, b api.Board, waking, open int) {
	t.Helper()
	if x, y, e := Ready(b); e != api.OK || x != waking || y != open {
		t.Errorf("Ready %s = %d %d %d, want %d %d", tell(b), x, y, e, waking, open)
	}
}

func noReady(t *testing.T, b api.Board, want api.Errno) {
	t.Helper()
	if x, y, e := Ready(b); e != want || x != 0 || y != 0 {
		t.Errorf("Ready %s = %d %d %d, want 0 0 %d", tell(b), x, y, e, want)
	}
}

// mayNot be: Ready and Hear answer ErrState, whatever the report: a right one, one of each kind of wrong, and one that is there.
func mayNot(t *testing.T, b api.Board) {
	t.Helper()
	noReady(t, b, api.ErrState)
	l := []api.Report{{}, {Worker: -1}, {Worker: b.Workers}, {Epoch: b.Epoch + 1, Step: b.Step}}
	for w := range min(max(b.Workers, 0), api.MaxWorkers) {
		r := report(b, w)
		l = append(l, r)
		r.Epoch++
		l = append(l, r)
		r.Waking = -1
		l = append(l, r)
	}
	for _, r := range append(l, b.Reports...) {
		noHear(t, b, r, api.ErrState)
	}
}

// P15.1: all numbers of workers, all edges of epochs and steps.
func TestOpen(t *testing.T) {
	for workers := 1; workers <= api.MaxWorkers; workers++ {
		for _, epoch := range inside() {
			for _, step := range stepsInside() {
				opens(t, workers, epoch, step)
			}
		}
	}
}

// P15.1: each number by itself out of its bounds, and with others.
func TestOpenRefused(t *testing.T) {
	for _, workers := range workersBeyond() {
		for _, epoch := range append(inside(), -1, top+1) {
			for _, step := range append(stepsInside(), -1, api.MaxStep+1) {
				noOpen(t, workers, epoch, step)
			}
		}
	}
	for workers := 1; workers <= api.MaxWorkers; workers++ {
		for _, epoch := range beyond() {
			for _, step := range append(stepsInside(), -1, api.MaxStep+1) {
				noOpen(t, workers, epoch, step)
			}
		}
		for _, epoch := range inside() {
			for _, step := range stepsBeyond() {
				noOpen(t, workers, epoch, step)
			}
		}
	}
}

// boards without reports: few and many workers, ordinary epochs and steps and their edges.
func boards() []api.Board {
	var l []api.Board
	for _, workers := range []int{1, 2, 3, api.MaxWorkers - 1, api.MaxWorkers} {
		l = append(l, bare(workers, 0, 0), bare(workers, 5, 12), bare(workers, top, api.MaxStep), bare(workers, 0, api.MaxStep), bare(workers, top, 0))
	}
	return l
}

// P15.2, P15.4: a report of each worker, and each of its numbers at all edges.
func TestStands(t *testing.T) {
	for _, b := range boards() {
		for w := range b.Workers {
			hears(t, b, report(b, w))
			for _, n := range inside() {
				for _, r := range numbered(report(b, w), n) {
					hears(t, b, r)
				}
				all := report(b, w)
				all.Sent, all.Got = slices.Repeat([]int{n}, b.Workers), slices.Repeat([]int{n}, b.Workers)
				all.Waking, all.Open = n, n
				hears(t, b, all)
			}
		}
	}
}

// numbered: the report with each number that it counts, one after the other, this one.
func numbered(r api.Report, n int) []api.Report {
	waking, open := r, r
	waking.Waking, open.Open = n, n
	l := []api.Report{waking, open}
	for i := range r.Sent {
		one := r
		one.Sent = slices.Clone(r.Sent)
		one.Sent[i] = n
		l = append(l, one)
	}
	for i := range r.Got {
		one := r
		one.Got = slices.Clone(r.Got)
		one.Got[i] = n
		l = append(l, one)
	}
	return l
}

// outOfRange: reports that are right for a board but for one thing, which is ErrRange.
func outOfRange(b api.Board, w int) []api.Report {
	plain := report(b, w)
	var l []api.Report
	for _, n := range []int{-1, -2, -b.Workers, b.Workers, b.Workers + 1, top, math.MinInt, math.MaxInt} {
		r := plain
		r.Worker = n
		l = append(l, r)
	}
	for _, n := range []int{0, 1, b.Workers - 1, b.Workers + 1, 2 * b.Workers, api.MaxWorkers + 1} {
		if n == b.Workers {
			continue
		}
		short, other := plain, plain
		short.Sent, other.Got = make([]int, n), make([]int, n)
		l = append(l, short, other)
	}
	none, other := plain, plain
	none.Sent, other.Got = nil, nil
	l = append(l, none, other)
	for _, n := range beyond() {
		l = append(l, numbered(plain, n)...)
	}
	return l
}

// otherRound: reports that are right for a board but for their Epoch or Step, or both.
func otherRound(b api.Board, w int) []api.Report {
	var l []api.Report
	for _, n := range append(append(inside(), beyond()...), b.Epoch-1, b.Epoch+1, -b.Epoch) {
		if r := report(b, w); n != b.Epoch {
			r.Epoch = n
			l = append(l, r)
		}
	}
	for _, n := range append(append(stepsInside(), stepsBeyond()...), b.Step-1, b.Step+1, -b.Step) {
		if r := report(b, w); n != b.Step {
			r.Step = n
			l = append(l, r)
			r.Epoch++
			l = append(l, r)
		}
	}
	return l
}

// P15.2, P15.4: each number out of its bounds, each list too short or too long.
func TestHearRange(t *testing.T) {
	for _, b := range boards() {
		for w := range b.Workers {
			for _, r := range outOfRange(b, w) {
				noHear(t, b, r, api.ErrRange)
			}
		}
	}
}

// P15.2, P15.4: another epoch, an older or a newer one, or another step.
func TestHearEpoch(t *testing.T) {
	for _, b := range boards() {
		for w := range b.Workers {
			for _, r := range otherRound(b, w) {
				noHear(t, b, r, api.ErrEpoch)
			}
		}
	}
}

// P15.4: a second report of one worker, the same or another one, wherever the first one stands.
func TestHearTwice(t *testing.T) {
	for _, b := range boards() {
		for w := range b.Workers {
			one := with(b, w)
			noHear(t, one, report(b, w), api.ErrTwice)
			noHear(t, full(b), report(b, w), api.ErrTwice)
			for _, n := range inside() {
				for _, r := range numbered(report(b, w), n) {
					noHear(t, one, r, api.ErrTwice)
					noHear(t, full(b), r, api.ErrTwice)
				}
			}
			for other := range b.Workers {
				if other != w {
					hears(t, one, report(b, other))
				}
			}
		}
	}
}

// P15.2, P15.4: ErrRange is told ahead of ErrEpoch, and both ahead of ErrTwice.
func TestHearOrder(t *testing.T) {
	for _, b := range boards() {
		for w := range b.Workers {
			for _, r := range outOfRange(b, w) {
				noHear(t, full(b), r, api.ErrRange)
				r.Epoch++
				noHear(t, b, r, api.ErrRange)
				noHear(t, full(b), r, api.ErrRange)
				r.Epoch, r.Step = b.Epoch, -1
				noHear(t, b, r, api.ErrRange)
				noHear(t, full(b), r, api.ErrRange)
			}
			for _, r := range otherRound(b, w) {
				noHear(t, with(b, w), r, api.ErrEpoch)
				noHear(t, full(b), r, api.ErrEpoch)
			}
		}
	}
}

// P15.3: Workers, Epoch or Step for which Open opens none, with reports that fit or without.
func TestBoardNotOpened(t *testing.T) {
	mayNot(t, api.Board{})
	for _, n := range workersBeyond() {
		mayNot(t, bare(n, 3, 4))
		mayNot(t, api.Board{Workers: n, Reports: []api.Report{{}}})
	}
	mayNot(t, full(bare(api.MaxWorkers+1, 3, 4)))
	mayNot(t, with(bare(api.MaxWorkers+1, 3, 4), 0))
	for _, n := range beyond() {
		mayNot(t, bare(2, n, 4))
		mayNot(t, full(bare(2, n, 4)))
	}
	for _, n := range stepsBeyond() {
		mayNot(t, bare(2, 3, n))
		mayNot(t, full(bare(2, 3, n)))
	}
	mayNot(t, full(bare(2, -1, -1)))
}

// P15.3: a report that may not stand, by itself or at each place among others, of that worker or not.
func TestBoardReportsRefused(t *testing.T) {
	for _, b := range []api.Board{bare(1, 5, 12), bare(3, 5, 12), bare(3, top, api.MaxStep), bare(api.MaxWorkers, 0, 0)} {
		for w := range b.Workers {
			for _, r := range append(outOfRange(b, w), otherRound(b, w)...) {
				alone := b
				alone.Reports = []api.Report{r}
				mayNot(t, alone)
				mayNot(t, changed(full(b), w, func(old *api.Report) { *old = r }))
			}
		}
	}
}

// P15.3: two reports of one worker, alike or not, side by side or far apart, with all others there or not.
func TestBoardTwice(t *testing.T) {
	for _, b := range boards() {
		for w := range b.Workers {
			mayNot(t, with(b, w, w))
			mayNot(t, with(full(b), w))
			mayNot(t, changed(with(b, w, w), 1, func(r *api.Report) { r.Waking, r.Open = 0, 0 }))
			for other := range b.Workers {
				if other == w {
					continue
				}
				mayNot(t, with(b, w, other, w))
				mayNot(t, with(b, other, w, w))
				// As many reports as workers: one is there twice, and one is not there.
				mayNot(t, changed(full(b), other, func(r *api.Report) { *r = report(b, w) }))
			}
		}
	}
}

// P15.3: a great many reports are refused, and soon.
func TestBoardMany(t *testing.T) {
	b := bare(2, 1, 1)
	b.Reports = slices.Repeat([]api.Report{report(b, 0)}, 100000)
	noReady(t, b, api.ErrState)
	noHear(t, b, report(b, 1), api.ErrState)
}

// orders of some numbers, all of them.
func orders(l []int) [][]int {
	if len(l) == 0 {
		return [][]int{nil}
	}
	var all [][]int
	for i, first := range l {
		rest := slices.Concat(l[:i], l[i+1:])
		for _, o := range orders(rest) {
			all = append(all, append([]int{first}, o...))
		}
	}
	return all
}

// sums of Waking and Open of the reports of so many workers.
func sums(workers int) (waking, open int) {
	for w := range workers {
		waking += 100 + w
	}
	return waking, 1<<workers - 1
}

// P15.4, P15.5: from an open board on, in each order: each report stands behind the others, and the last one ends the round.
func TestEachOrder(t *testing.T) {
	for workers := 1; workers <= 5; workers++ {
		waking, open := sums(workers)
		for _, order := range orders(upTo(workers)) {
			b, e := Open(workers, 3, 7)
			if e != api.OK {
				t.Fatalf("Open: %d", e)
			}
			for i, w := range order {
				noReady(t, b, api.ErrWait)
				next, e := Hear(b, report(b, w))
				if e != api.OK || !same(next, with(bare(workers, 3, 7), order[:i+1]...)) {
					t.Fatalf("Hear of %d in %v: %s %d", w, order, tell(next), e)
				}
				b = next
			}
			ready(t, b, waking, open)
		}
	}
}

// P15.5: written by hand.
func TestReady(t *testing.T) {
	one := func(sent, got, waking, open int) api.Board {
		return api.Board{Workers: 1, Reports: []api.Report{{Sent: []int{sent}, Got: []int{got}, Waking: waking, Open: open}}}
	}
	noReady(t, bare(1, 0, 0), api.ErrWait)
	noReady(t, api.Board{Workers: 1, Reports: []api.Report{}}, api.ErrWait)
	ready(t, one(0, 0, 0, 0), 0, 0)
	ready(t, one(2, 2, 2, 1), 2, 1)
	ready(t, one(top, top, top, top), top, top)
	noReady(t, one(1, 0, 5, 5), api.ErrWait) // mail to itself is on the way
	noReady(t, one(0, 1, 5, 5), api.ErrWait)
	noReady(t, one(top, top-1, 5, 5), api.ErrWait)
	// 0 sent 4 to itself, 2 to 1; 1 sent 3 to 0, none to itself.
	zeroth := api.Report{Worker: 0, Epoch: 1, Step: 2, Sent: []int{4, 2}, Got: []int{4, 3}, Waking: 7, Open: 1}
	first := api.Report{Worker: 1, Epoch: 1, Step: 2, Sent: []int{3, 0}, Got: []int{2, 0}, Waking: 2, Open: 8}
	b := bare(2, 1, 2)
	b.Reports = []api.Report{zeroth, first}
	ready(t, b, 9, 9)
	b.Reports = []api.Report{first, zeroth}
	ready(t, b, 9, 9)
	b.Reports = []api.Report{zeroth}
	noReady(t, b, api.ErrWait)
	b.Reports = []api.Report{first}
	noReady(t, b, api.ErrWait)
	// What each one got as if it were what it sent: 0 sent 2 to 1, which got 3.
	zeroth.Got, first.Got = zeroth.Sent, first.Sent
	b.Reports = []api.Report{zeroth, first}
	noReady(t, b, api.ErrWait)
}

// P15.5: a report of each worker, all edges of epochs and steps, all numbers at their edges.
func TestReadyEdges(t *testing.T) {
	for _, b := range boards() {
		waking, open := sums(b.Workers)
		ready(t, full(b), waking, open)
		noReady(t, b, api.ErrWait)
		for _, n := range inside() {
			all := full(b)
			for i := range all.Reports {
				r := &all.Reports[i]
				r.Sent, r.Got = slices.Repeat([]int{n}, b.Workers), slices.Repeat([]int{n}, b.Workers)
				r.Waking, r.Open = n, 0
			}
			ready(t, all, n*b.Workers, 0)
			for i := range all.Reports {
				all.Reports[i].Waking, all.Reports[i].Open = 0, n
			}
			ready(t, all, 0, n*b.Workers)
		}
	}
}

// P15.5: Waking and Open of each report count, wherever it stands.
func TestReadySums(t *testing.T) {
	for _, b := range boards() {
		waking, open := sums(b.Workers)
		for place := range b.Workers {
			ready(t, changed(full(b), place, func(r *api.Report) { r.Waking += 1000 }), waking+1000, open)
			ready(t, changed(full(b), place, func(r *api.Report) { r.Open += 1000 }), waking, open+1000)
		}
	}
}

// P15.5: no round ends ahead of its last report: whichever are missing, though all that is told fits.
func TestLastReport(t *testing.T) {
	for _, b := range boards() {
		for some := range 1<<b.Workers - 1 {
			var l []int
			for w := range b.Workers {
				if some>>w&1 == 1 {
					l = append(l, w)
				}
			}
			noReady(t, with(b, l...), api.ErrWait)
			slices.Reverse(l)
			noReady(t, with(b, l...), api.ErrWait)
		}
	}
}

// P15.5: one piece of mail on the way, or one too many, between any two workers or to itself, in any order of reports.
func TestLastMail(t *testing.T) {
	for _, b := range boards() {
		there := upTo(b.Workers)
		back := slices.Clone(there)
		slices.Reverse(back)
		for _, order := range [][]int{there, back, slices.Concat(there[b.Workers/2:], there[:b.Workers/2])} {
			whole := with(b, order...)
			for place := range order {
				for other := range b.Workers {
					for _, by := range []int{-1, 1, 50000} {
						if whole.Reports[place].Sent[other]+by >= 0 {
							noReady(t, changed(whole, place, func(r *api.Report) { r.Sent[other] += by }), api.ErrWait)
						}
						if whole.Reports[place].Got[other]+by >= 0 {
							noReady(t, changed(whole, place, func(r *api.Report) { r.Got[other] += by }), api.ErrWait)
						}
					}
				}
			}
		}
	}
}

// P15.5: as much came as was sent in all, to each and from each, but not from whom it was sent.
func TestOtherMail(t *testing.T) {
	b := full(bare(3, 1, 1))
	mixed := changed(b, 0, func(r *api.Report) { r.Got[1]++; r.Got[2]-- })
	noReady(t, mixed, api.ErrWait)
	noReady(t, changed(mixed, 1, func(r *api.Report) { r.Got[1]--; r.Got[2]++ }), api.ErrWait)
	noReady(t, changed(b, 2, func(r *api.Report) { r.Sent, r.Got = r.Got, r.Sent }), api.ErrWait)
	turned := copyOf(b)
	for i := range turned.Reports {
		turned.Reports[i].Got = slices.Clone(turned.Reports[i].Sent)
	}
	noReady(t, turned, api.ErrWait)
}

// die: numbers that look drawn, the same each time.
type die uint64

func (d *die) n(most int) int {
	*d = *d*6364136223846793005 + 1442695040888963407
	return int(uint64(*d>>33) % uint64(most))
}

// told: P15.2, word by word.
func told(b api.Board, r api.Report) api.Errno {
	right := func(n int) bool { return 0 <= n && n <= 1<<40 }
	fits := 0 <= r.Worker && r.Worker < b.Workers && len(r.Sent) == b.Workers && len(r.Got) == b.Workers
	for _, n := range slices.Concat(r.Sent, r.Got, []int{r.Waking, r.Open}) {
		fits = fits && right(n)
	}
	if !fits {
		return api.ErrRange
	}
	if r.Epoch != b.Epoch || r.Step != b.Step {
		return api.ErrEpoch
	}
	return api.OK
}

// may a board be: P15.3, word by word.
func may(b api.Board) bool {
	if b.Workers < 1 || b.Workers > api.MaxWorkers || b.Epoch < 0 || b.Epoch > 1<<40 || b.Step < 0 || b.Step > api.MaxStep {
		return false
	}
	for i, r := range b.Reports {
		if told(b, r) != api.OK {
			return false
		}
		for j := range i {
			if b.Reports[j].Worker == r.Worker {
				return false
			}
		}
	}
	return true
}

// hearAsTold: P15.4, word by word.
func hearAsTold(t *testing.T, b api.Board, r api.Report) api.Errno {
	t.Helper()
	want := told(b, r)
	for _, old := range b.Reports {
		if want == api.OK && old.Worker == r.Worker {
			want = api.ErrTwice
		}
	}
	if !may(b) {
		want = api.ErrState
	}
	if want == api.OK {
		hears(t, b, r)
	} else {
		noHear(t, b, r, want)
	}
	return want
}

// readyAsTold: P15.5, word by word: reports are looked for by their workers.
func readyAsTold(t *testing.T, b api.Board) api.Errno {
	t.Helper()
	if !may(b) {
		noReady(t, b, api.ErrState)
		return api.ErrState
	}
	of := map[int]api.Report{}
	waking, open := 0, 0
	for _, r := range b.Reports {
		of[r.Worker] = r
		waking, open = waking+r.Waking, open+r.Open
	}
	want := api.OK
	for from := range b.Workers {
		for to := range b.Workers {
			a, ok := of[from]
			c, too := of[to]
			if !ok || !too || a.Sent[to] != c.Got[from] {
				want = api.ErrWait
			}
		}
	}
	if want == api.OK {
		ready(t, b, waking, open)
	} else {
		noReady(t, b, want)
	}
	return want
}

// drawnReport: mostly of this round, mostly with as many numbers as there are workers, seldom with a wrong one.
func drawnReport(d *die, b api.Board) api.Report {
	r := api.Report{Worker: d.n(b.Workers + 1), Epoch: b.Epoch, Step: b.Step, Waking: d.n(4), Open: d.n(4)}
	if r.Worker == b.Workers && d.n(4) > 0 {
		r.Worker = 0
	}
	r.Sent, r.Got = make([]int, b.Workers), make([]int, b.Workers)
	for i := range r.Sent {
		r.Sent[i], r.Got[i] = d.n(10)/9, d.n(10)/9
	}
	switch d.n(40) {
	case 0:
		r.Sent = r.Sent[1:]
	case 1:
		r.Got = append(r.Got, 0)
	case 2:
		r.Epoch++
	case 3:
		r.Step--
	case 4:
		r.Sent[d.n(b.Workers)] = -1
	case 5:
		r.Got[d.n(b.Workers)] = top + 1
	case 6:
		r.Waking = top + d.n(2)
	case 7:
		r.Open = -d.n(2)
	}
	return r
}

// P15.2 to P15.5: drawn boards and reports, held against the words; each answer is drawn often.
func TestDrawn(t *testing.T) {
	d := die(15)
	heard, readied := map[api.Errno]int{}, map[api.Errno]int{}
	for range 20000 {
		b := bare(1+d.n(4), d.n(3), 1+d.n(3))
		if d.n(30) == 0 {
			b.Epoch = -1
		}
		for w := range d.n(b.Workers + 1) {
			r := drawnReport(&d, b)
			if d.n(8) > 0 {
				r.Worker = (b.Step + w) % b.Workers
			}
			b.Reports = append(b.Reports, r)
		}
		heard[hearAsTold(t, b, drawnReport(&d, b))]++
		readied[readyAsTold(t, b)]++
	}
	for _, e := range []api.Errno{api.OK, api.ErrState, api.ErrRange, api.ErrEpoch, api.ErrTwice} {
		if heard[e] < 100 {
			t.Errorf("Hear answered %d %d times alone", e, heard[e])
		}
	}
	for _, e := range []api.Errno{api.OK, api.ErrState, api.ErrWait} {
		if readied[e] < 100 {
			t.Errorf("Ready answered %d %d times alone", e, readied[e])
		}
	}
}

// P15.3 to P15.5: a full board with one number of it laid out of place, or at an edge.
func TestEachNumber(t *testing.T) {
	b := full(bare(3, 2, 6))
	for _, n := range slices.Concat(inside(), beyond(), stepsInside(), stepsBeyond(), []int{3, 6, 11, 21}) {
		for place := range b.Reports {
			changes := []func(r *api.Report){
				func(r *api.Report) { r.Worker = n }, func(r *api.Report) { r.Epoch = n }, func(r *api.Report) { r.Step = n },
				func(r *api.Report) { r.Waking = n }, func(r *api.Report) { r.Open = n },
			}
			for i := range 3 {
				changes = append(changes, func(r *api.Report) { r.Sent[i] = n }, func(r *api.Report) { r.Got[i] = n })
			}
			for _, change := range changes {
				x := changed(b, place, change)
				readyAsTold(t, x)
				last := x.Reports[2]
				hearAsTold(t, x, last)
				x.Reports = x.Reports[:2]
				readyAsTold(t, x)
				hearAsTold(t, x, last)
			}
		}
	}
}

// crew: what workers count, and the mail on the way between each two.
type crew struct {
	sent, got [][]int
	flying    [][2]int
}

func newCrew(workers int) *crew {
	c := &crew{}
	for range workers {
		c.sent, c.got = append(c.sent, make([]int, workers)), append(c.got, make([]int, workers))
	}
	return c
}

func (c *crew) send(from, to int) {
	c.sent[from][to]++
	c.flying = append(c.flying, [2]int{from, to})
}

func (c *crew) come(i int) {
	from, to := c.flying[i][0], c.flying[i][1]
	c.got[to][from]++
	c.flying = slices.Delete(c.flying, i, i+1)
}

// board of what all report now, but for the last few in an order that is drawn.
func (c *crew) board(t *testing.T, d *die, without int) api.Board {
	t.Helper()
	workers := len(c.sent)
	b, e := Open(workers, 4, 9)
	if e != api.OK {
		t.Fatalf("Open: %d", e)
	}
	todo := upTo(workers)
	for len(todo) > without {
		i := d.n(len(todo))
		w := todo[i]
		todo = slices.Delete(todo, i, i+1)
		b, e = Hear(b, api.Report{Worker: w, Epoch: 4, Step: 9, Sent: c.sent[w], Got: c.got[w], Waking: w, Open: 1})
		if e != api.OK {
			t.Fatalf("Hear: %d", e)
		}
	}
	return b
}

// looks: at any time the round is over if, and only if, all have reported and nothing is on the way.
func (c *crew) looks(t *testing.T, d *die) {
	t.Helper()
	workers := len(c.sent)
	for without := range workers {
		b := c.board(t, d, without)
		if without > 0 || len(c.flying) > 0 {
			noReady(t, b, api.ErrWait)
		} else {
			ready(t, b, workers*(workers-1)/2, workers)
		}
	}
}

// What comes of it: no round ends ahead of its last report, nor of its last mail, whatever is on the way.
func TestNoRoundEndsEarly(t *testing.T) {
	d := die(9)
	for workers := 1; workers <= api.MaxWorkers; workers++ {
		c := newCrew(workers)
		c.looks(t, &d)
		for range 40 {
			for range d.n(6) {
				c.send(d.n(workers), d.n(workers))
			}
			for len(c.flying) > 0 {
				c.looks(t, &d)
				c.come(d.n(len(c.flying)))
			}
			c.looks(t, &d)
		}
	}
}

// roomy: the list again within a longer one, to see whether it or what lies behind it is changed.
func roomy[T any](l []T, behind T) []T {
	return append(slices.Clone(l), slices.Repeat([]T{behind}, 9)...)[:len(l)]
}

func roomyReport(r api.Report) api.Report {
	r.Sent, r.Got = roomy(r.Sent, -77), roomy(r.Got, -77)
	return r
}

func roomyBoard(b api.Board) api.Board {
	b.Reports = roomy(b.Reports, api.Report{Worker: -77})
	for i := range b.Reports {
		b.Reports[i] = roomyReport(b.Reports[i])
	}
	return b
}

// wholeReport: all that a report has, the spare room of its lists too.
func wholeReport(r api.Report) string {
	r.Sent, r.Got = r.Sent[:cap(r.Sent)], r.Got[:cap(r.Got)]
	return fmt.Sprint(r)
}

func whole(b api.Board) string {
	s := fmt.Sprint(b.Workers, b.Epoch, b.Step)
	for _, r := range b.Reports[:cap(b.Reports)] {
		s += wholeReport(r)
	}
	return s
}

// spoil a list with its spare room: nothing else may change by it.
func spoil[T any](l []T, by T) {
	l = l[:cap(l)]
	for i := range l {
		l[i] = by
	}
}

func spoilBoard(b api.Board) {
	for _, r := range b.Reports {
		spoil(r.Sent, -99)
		spoil(r.Got, -99)
	}
	spoil(b.Reports, api.Report{Worker: -99})
}

// P15.4: what is handed in stays, its spare room too, and the board that is answered is new memory.
func TestHearMemory(t *testing.T) {
	for _, plain := range boards() {
		some := with(plain, upTo(plain.Workers-1)...)
		for _, old := range []api.Board{plain, some, full(plain), with(plain, 0, 0)} {
			for _, right := range []api.Report{report(plain, plain.Workers-1), {Worker: -1, Sent: []int{1}, Got: []int{2}}} {
				b, r := roomyBoard(old), roomyReport(right)
				before, too := whole(b), wholeReport(r)
				got, e := Hear(b, r)
				again, f := Hear(b, r)
				if e != f || !same(got, again) {
					t.Fatalf("Hear %s %s: %d, then %d", tell(old), tell(right), e, f)
				}
				kept := whole(again)
				spoilBoard(got)
				if whole(b) != before || wholeReport(r) != too {
					t.Fatalf("Hear %s %s changed an argument, or shares memory with it", tell(old), tell(right))
				}
				if whole(again) != kept {
					t.Fatalf("Hear %s %s: two answers share memory", tell(old), tell(right))
				}
			}
		}
	}
}

// P15.4: no two lists of an answer share memory, though all that was handed in is one list.
func TestHearApart(t *testing.T) {
	for workers := 1; workers <= api.MaxWorkers; workers++ {
		shared := make([]int, workers, 4*workers)
		of := func(w int) api.Report { return api.Report{Worker: w, Sent: shared, Got: shared} }
		b := bare(workers, 0, 0)
		for w := range workers - 1 {
			b.Reports = append(b.Reports, of(w))
		}
		got, e := Hear(b, of(workers-1))
		if e != api.OK {
			t.Fatalf("Hear: %d", e)
		}
		var lists [][]int
		for _, r := range got.Reports {
			lists = append(lists, r.Sent, r.Got)
		}
		for i, l := range lists {
			spoil(l, i+1)
		}
		for i, l := range lists {
			if slices.ContainsFunc(l[:cap(l)], func(n int) bool { return n != i+1 }) {
				t.Fatalf("%d workers: list %d shares memory with another one", workers, i)
			}
		}
		if slices.Max(shared[:cap(shared)]) != 0 {
			t.Fatalf("%d workers: an argument was changed", workers)
		}
	}
}

// P15.1: two boards that are opened share nothing: what is put on one is not on the other.
func TestOpenMemory(t *testing.T) {
	one, _ := Open(2, 1, 1)
	other, _ := Open(2, 1, 1)
	spoilBoard(one)
	one.Reports = append(one.Reports, report(one, 0))
	if len(other.Reports) != 0 || slices.ContainsFunc(other.Reports[:cap(other.Reports)], func(r api.Report) bool { return r.Worker != 0 }) {
		t.Errorf("two opened boards share memory: %s", whole(other))
	}
	hears(t, other, report(other, 1))
}

// P15.5: what Ready is asked of stays, its spare room too, and it answers the same again.
func TestReadyMemory(t *testing.T) {
	for _, plain := range boards() {
		behind := changed(full(plain), 0, func(r *api.Report) { r.Sent[0]++ })
		for _, old := range []api.Board{plain, full(plain), behind, with(plain, 0, 0)} {
			slices.Reverse(old.Reports)
			b := roomyBoard(old)
			before := whole(b)
			x, y, e := Ready(b)
			again, too, f := Ready(b)
			if x != again || y != too || e != f {
				t.Errorf("Ready %s: %d %d %d, then %d %d %d", tell(old), x, y, e, again, too, f)
			}
			if whole(b) != before {
				t.Errorf("Ready %s changed its argument", tell(old))
			}
		}
	}
}
