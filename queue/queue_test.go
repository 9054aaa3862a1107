package queue

import (
	"bytes"
	"encoding/binary"
	"fmt"
	"math"
	"slices"
	"testing"

	"paceline/api"
)

// mail of numbers two by two: To and Value.
func mail(numbers ...int) []api.Mail {
	var l []api.Mail
	for i := 0; i < len(numbers); i += 2 {
		l = append(l, api.Mail{To: numbers[i], Value: numbers[i+1]})
	}
	return l
}

func one(to, value int) api.Mail { return api.Mail{To: to, Value: value} }

// many of mail, all alike.
func many(n, to, value int) []api.Mail { return slices.Repeat(mail(to, value), n) }

// run of mail as it stands, whether it may be one or not, by the library's own numbers.
func run(l ...api.Mail) []byte {
	b := binary.AppendUvarint(nil, uint64(len(l)))
	ahead := 0
	for _, m := range l {
		b = binary.AppendUvarint(b, uint64(m.To-ahead))
		ahead = m.To
	}
	for _, m := range l {
		b = binary.AppendUvarint(b, uint64(m.Value))
	}
	return b
}

func queueOf(budget int, loose []api.Mail, runs ...[]byte) api.Queue {
	return api.Queue{Budget: budget, Loose: loose, Runs: runs}
}

// times: so many runs, all alike.
func times(n int, b []byte) [][]byte { return slices.Repeat([][]byte{b}, n) }

// tell in short what was handed in or answered: lists may be long.
func tell(x any) string { return fmt.Sprintf("%.300s", fmt.Sprint(x)) }

func same(a, b api.Queue) bool {
	return a.Budget == b.Budget && slices.Equal(a.Loose, b.Loose) && slices.EqualFunc(a.Runs, b.Runs, bytes.Equal)
}

func pushes(t *testing.T, q api.Queue, m api.Mail, want api.Queue) {
	t.Helper()
	if got, e := Push(q, m); e != api.OK || !same(got, want) {
		t.Errorf("Push %s %v = %s %d, want %s", tell(q), m, tell(got), e, tell(want))
	}
}

func noPush(t *testing.T, q api.Queue, m api.Mail, want api.Errno) {
	t.Helper()
	if got, e := Push(q, m); e != want || got.Budget != 0 || len(got.Loose) != 0 || len(got.Runs) != 0 {
		t.Errorf("Push %s %v = %s %d, want none, %d", tell(q), m, tell(got), e, want)
	}
}

func drains(t *testing.T, q api.Queue, want []api.Mail) {
	t.Helper()
	if got, e := Drain(q); e != api.OK || !slices.Equal(got, want) {
		t.Errorf("Drain %s = %s %d, want %s", tell(q), tell(got), e, tell(want))
	}
}

func counts(t *testing.T, q api.Queue, want int) {
	t.Helper()
	if got, e := Count(q); e != api.OK || got != want {
		t.Errorf("Count %s = %d %d, want %d", tell(q), got, e, want)
	}
}

// mayNot be: all three calls answer ErrState, ahead of all that Push could have against the mail.
func mayNot(t *testing.T, q api.Queue) {
	t.Helper()
	for _, m := range mail(0, 0, 3, 5, -1, 0, api.MaxVertices, 0, 0, -1, 0, api.MaxDist+1) {
		noPush(t, q, m, api.ErrState)
	}
	if got, e := Drain(q); e != api.ErrState || len(got) != 0 {
		t.Errorf("Drain %s = %s %d, want none, ErrState", tell(q), tell(got), e)
	}
	if got, e := Count(q); e != api.ErrState || got != 0 {
		t.Errorf("Count %s = %d %d, want 0, ErrState", tell(q), got, e)
	}
}

// noRun: a queue with these bytes may not be, whether they stand alone, ahead of runs or behind them.
func noRun(t *testing.T, b ...byte) {
	t.Helper()
	whole := run(one(1, 1))
	mayNot(t, queueOf(2, nil, b))
	mayNot(t, queueOf(3, mail(4, 4), b, whole))
	mayNot(t, queueOf(api.MaxBudget, mail(4, 4, 3, 3), whole, whole, b))
}

// isRun: a queue with these bytes holds just this mail.
func isRun(t *testing.T, b []byte, l []api.Mail) {
	t.Helper()
	q := queueOf(1, nil, b)
	drains(t, q, l)
	counts(t, q, len(l))
	pushes(t, q, one(6, 7), queueOf(1, nil, b, []byte{1, 6, 7}))
}

// ahead: P8.1, word by word.
func ahead(a, b api.Mail) bool {
	if a.To == b.To {
		return a.Value < b.Value
	}
	return a.To < b.To
}

// put each piece of mail where it belongs, one by one: a plain model of all that is in order.
func put(l []api.Mail) []api.Mail {
	var out []api.Mail
	for _, m := range l {
		at := len(out)
		for at > 0 && ahead(m, out[at-1]) {
			at--
		}
		out = slices.Insert(out, at, m)
	}
	return out
}

// waits: P9.1, word by word.
func waits(m api.Mail) bool {
	return 0 <= m.To && m.To <= api.MaxVertices-1 && 0 <= m.Value && m.Value <= api.MaxDist
}

// read a run without asking much of it: the plain model asks the mail that comes of it whether it may wait, is in order, and has these very bytes.
func read(b []byte) (l []api.Mail, ok bool) {
	rest, fine := b, true
	get := func() int {
		n, k := binary.Uvarint(rest)
		if k <= 0 || n > 1<<50 {
			fine = false
			return 0
		}
		rest = rest[k:]
		return int(n)
	}
	n := get()
	if n < 1 || n > api.MaxBudget {
		return nil, false
	}
	l = make([]api.Mail, n)
	to := 0
	for i := range l {
		to += get()
		l[i].To = to
	}
	for i := range l {
		l[i].Value = get()
	}
	for i, m := range l {
		fine = fine && waits(m) && (i == 0 || !ahead(m, l[i-1]))
	}
	return l, fine && bytes.Equal(run(l...), b)
}

// asModel: bytes are taken for a run if the plain model takes them, and with the same mail.
func asModel(t *testing.T, b []byte) {
	t.Helper()
	if l, ok := read(b); ok {
		isRun(t, b, l)
	} else {
		noRun(t, b...)
	}
}

// die: numbers that look drawn, the same each time.
type die uint64

func (d *die) n(most int) int {
	*d = *d*6364136223846793005 + 1442695040888963407
	return int(uint64(*d>>33) % uint64(most))
}

// mail that may wait: small numbers, so that some is alike, or the edges.
func (d *die) mail() api.Mail {
	m := one(d.n(6), d.n(4))
	if d.n(9) == 0 {
		m.To = api.MaxVertices - 1
	}
	if d.n(9) == 0 {
		m.Value = api.MaxDist
	}
	if d.n(9) == 0 {
		m.Value = 1 << d.n(42)
	}
	return m
}

// rising: so much mail in order that may wait, at most 250 of one To.
func rising(n int) []api.Mail {
	var l []api.Mail
	for i := range n {
		l = append(l, one(i/250, i%250*7))
	}
	return l
}

// P9.4: the examples of the document.
func TestExamples(t *testing.T) {
	q := queueOf(2, nil)
	pushes(t, q, one(3, 5), queueOf(2, mail(3, 5)))
	pushes(t, queueOf(2, mail(3, 5)), one(1, 4), queueOf(2, nil, []byte{2, 1, 2, 4, 5}))
	drains(t, queueOf(2, nil, []byte{2, 1, 2, 4, 5}), mail(1, 4, 3, 5))
	counts(t, queueOf(2, nil, []byte{2, 1, 2, 4, 5}), 2)
}

// P9.4: behind what is loose, in no order, till there is as much as the budget; then a run behind the others.
func TestPush(t *testing.T) {
	first := []byte{3, 1, 0, 8, 2, 172, 2, 0} // 1 2, 1 300, 9 0
	pushes(t, queueOf(3, nil), one(9, 0), queueOf(3, mail(9, 0)))
	pushes(t, queueOf(3, mail(9, 0)), one(1, 300), queueOf(3, mail(9, 0, 1, 300)))
	pushes(t, queueOf(3, mail(9, 0, 1, 300)), one(1, 2), queueOf(3, nil, first))
	pushes(t, queueOf(3, nil, first), one(0, 1), queueOf(3, mail(0, 1), first))
	pushes(t, queueOf(3, mail(0, 1, 0, 0), first), one(0, 2), queueOf(3, nil, first, []byte{3, 0, 0, 0, 0, 1, 2}))
	pushes(t, queueOf(4, mail(5, 5), first, first), one(4, 4), queueOf(4, mail(5, 5, 4, 4), first, first))
}

// P9.4: the budget 1: nothing is ever loose.
func TestPushBudgetOne(t *testing.T) {
	pushes(t, queueOf(1, nil), one(0, 0), queueOf(1, nil, []byte{1, 0, 0}))
	pushes(t, queueOf(1, []api.Mail{}, []byte{1, 0, 0}), one(7, 130), queueOf(1, nil, []byte{1, 0, 0}, []byte{1, 7, 130, 1}))
	pushes(t, queueOf(1, nil, []byte{1, 7, 9}), one(2, 3), queueOf(1, nil, []byte{1, 7, 9}, []byte{1, 2, 3}))
}

// P9.4: the budget MaxBudget: one less stays loose, just as much becomes one run.
func TestPushMaxBudget(t *testing.T) {
	l := rising(api.MaxBudget)
	back := slices.Clone(l)
	slices.Reverse(back)
	last := api.MaxBudget - 1
	pushes(t, queueOf(api.MaxBudget, back[:last-1]), back[last-1], queueOf(api.MaxBudget, back[:last]))
	pushes(t, queueOf(api.MaxBudget, back[:last]), back[last], queueOf(api.MaxBudget, nil, run(l...)))
	pushes(t, queueOf(api.MaxBudget, back[:last], run(l[:3]...)), back[last], queueOf(api.MaxBudget, nil, run(l[:3]...), run(l...)))
	alike := many(api.MaxBudget, 9, api.MaxDist)
	pushes(t, queueOf(api.MaxBudget, alike[:last]), alike[0], queueOf(api.MaxBudget, nil, run(alike...)))
}

// P9.4: the same piece of mail several times.
func TestPushAlike(t *testing.T) {
	pushes(t, queueOf(3, mail(4, 6)), one(4, 6), queueOf(3, mail(4, 6, 4, 6)))
	pushes(t, queueOf(3, mail(4, 6, 4, 6)), one(4, 6), queueOf(3, nil, []byte{3, 4, 0, 0, 6, 6, 6}))
	again := []byte{2, 4, 0, 6, 6}
	pushes(t, queueOf(2, mail(4, 6), again), one(4, 6), queueOf(2, nil, again, again))
}

// P9.1, P9.4: the least and the greatest To and Value, and what lies just behind them.
func TestPushEdges(t *testing.T) {
	last, far := api.MaxVertices-1, api.MaxDist
	for _, m := range mail(0, 0, 0, far, last, 0, last, far, last-1, far-1) {
		pushes(t, queueOf(2, nil), m, queueOf(2, []api.Mail{m}))
		pushes(t, queueOf(1, nil), m, queueOf(1, nil, run(m)))
	}
	pushes(t, queueOf(4, mail(last, far, last, 0, 0, far)), one(0, 0),
		queueOf(4, nil, []byte{4, 0, 0, 199, 1, 0, 0, 128, 128, 128, 128, 128, 128, 1, 0, 128, 128, 128, 128, 128, 128, 1}))
	for _, m := range barred() {
		noPush(t, queueOf(1, nil), m, api.ErrRange)
		noPush(t, queueOf(5, mail(1, 1), []byte{1, 3, 3}), m, api.ErrRange)
	}
}

// barred: mail that may not wait.
func barred() []api.Mail {
	last, far := api.MaxVertices-1, api.MaxDist
	return mail(-1, 0, last+1, 0, 0, -1, 0, far+1, -1, -1, last+1, far+1,
		math.MinInt, 5, math.MaxInt, 5, 5, math.MinInt, 5, math.MaxInt, 1<<32, 1, 1, 1<<62)
}

// full queues: just MaxMail pieces of mail, in several ways.
func full() []api.Queue {
	l := rising(1000)
	return []api.Queue{
		queueOf(1000, nil, times(5, run(l...))...),
		queueOf(3, mail(1, 1, 0, 0), append(times(4, run(l...)), run(l[:998]...))...),
		queueOf(1000, l[:999], append(times(4, run(l...)), run(l[:1]...))...),
		queueOf(1, nil, times(api.MaxMail, []byte{1, 5, 9})...),
		queueOf(2, mail(8, 8), times(api.MaxMail-1, []byte{1, 5, 9})...),
		queueOf(7, nil, times(api.MaxMail/2, []byte{2, 5, 1, 9, 3})...),
	}
}

// P9.4: a queue is full at MaxMail pieces of mail, not ahead of it; mail that may not wait is told first.
func TestPushFull(t *testing.T) {
	for _, q := range full() {
		counts(t, q, api.MaxMail)
		for _, m := range mail(0, 0, 5, 9, api.MaxVertices-1, api.MaxDist) {
			noPush(t, q, m, api.ErrFull)
		}
		for _, m := range barred() {
			noPush(t, q, m, api.ErrRange)
		}
		less := q
		less.Runs = append(slices.Clone(q.Runs[1:]), run(rising(firstCount(q)-1)...))
		if firstCount(q) == 1 {
			less.Runs = q.Runs[1:]
		}
		next, e := Push(less, one(2, 3))
		if e != api.OK {
			t.Fatalf("Push to one less than full: %d", e)
		}
		counts(t, next, api.MaxMail)
		noPush(t, next, one(2, 3), api.ErrFull)
	}
}

// firstCount: how much mail the first run has.
func firstCount(q api.Queue) int {
	n, _ := binary.Uvarint(q.Runs[0])
	return int(n)
}

// P9.5, P9.6: an empty queue, whatever its budget.
func TestEmpty(t *testing.T) {
	for _, budget := range []int{1, 2, 500, api.MaxBudget} {
		for _, q := range []api.Queue{queueOf(budget, nil), {Budget: budget, Loose: []api.Mail{}, Runs: [][]byte{}}} {
			drains(t, q, nil)
			counts(t, q, 0)
		}
	}
}

// P9.5, P9.6: loose mail alone, runs alone, both; what is loose is in no order.
func TestDrainCount(t *testing.T) {
	for _, c := range []struct {
		q    api.Queue
		want []api.Mail
	}{
		{queueOf(2, mail(3, 5)), mail(3, 5)},
		{queueOf(5, mail(3, 5, 1, 4, 3, 0, 1, 9)), mail(1, 4, 1, 9, 3, 0, 3, 5)},
		{queueOf(2, nil, []byte{1, 7, 0}), mail(7, 0)},
		{queueOf(2, nil, []byte{2, 5, 4, 1, 0}, []byte{2, 0, 7, 2, 3}), mail(0, 2, 5, 1, 7, 3, 9, 0)},
		{queueOf(3, mail(8, 1, 5, 0), []byte{3, 5, 0, 3, 1, 2, 0}, []byte{3, 0, 5, 4, 2, 9, 9}), mail(0, 2, 5, 0, 5, 1, 5, 2, 5, 9, 8, 0, 8, 1, 9, 9)},
		{queueOf(2, mail(4, 6), []byte{2, 4, 0, 6, 6}, []byte{2, 4, 0, 6, 6}), many(5, 4, 6)},
		{queueOf(9, mail(0, api.MaxDist, 199, 0), run(mail(0, 0, 199, api.MaxDist)...)), mail(0, 0, 0, api.MaxDist, 199, 0, 199, api.MaxDist)},
	} {
		drains(t, c.q, c.want)
		counts(t, c.q, len(c.want))
	}
}

// P9.2, P9.3: runs may have other lengths than the budget, 1 to MaxBudget.
func TestOtherRuns(t *testing.T) {
	l := rising(api.MaxBudget)
	for _, budget := range []int{1, 2, 17, api.MaxBudget} {
		q := queueOf(budget, nil, run(l...), run(l[10:11]...), run(l[20:22]...))
		drains(t, q, put(slices.Concat(l, l[10:11], l[20:22])))
		counts(t, q, api.MaxBudget+3)
	}
}

// P9.3, P9.5: just MaxMail pieces of mail, just MaxMail runs.
func TestDrainFull(t *testing.T) {
	for _, q := range full() {
		all := slices.Clone(q.Loose)
		for _, b := range q.Runs {
			l, ok := read(b)
			if !ok {
				t.Fatalf("no run: %s", tell(b))
			}
			all = append(all, l...)
		}
		drains(t, q, put(all))
	}
	each := rising(api.MaxMail)
	var runs [][]byte
	for _, m := range each {
		runs = append(runs, run(m))
	}
	drains(t, queueOf(1, nil, runs...), each)
	slices.Reverse(runs)
	drains(t, queueOf(1000, nil, runs...), each)
	drains(t, queueOf(2, each[:1], runs[:api.MaxMail-1]...), each)
}

// P9.3: a budget below 1 or above MaxBudget.
func TestBudgetRefused(t *testing.T) {
	for _, budget := range []int{0, -1, -2, math.MinInt, api.MaxBudget + 1, 2 * api.MaxBudget, api.MaxMail, math.MaxInt, 1 << 32} {
		mayNot(t, queueOf(budget, nil))
		mayNot(t, queueOf(budget, mail(1, 1)))
		mayNot(t, queueOf(budget, nil, []byte{1, 1, 1}))
	}
	mayNot(t, api.Queue{})
}

// P9.3: as much loose mail as the budget, and more.
func TestLooseRefused(t *testing.T) {
	for _, budget := range []int{1, 2, 3, 10, api.MaxBudget} {
		counts(t, queueOf(budget, many(budget-1, 1, 1)), budget-1)
		mayNot(t, queueOf(budget, many(budget, 1, 1)))
		mayNot(t, queueOf(budget, many(budget+1, 1, 1)))
		mayNot(t, queueOf(budget, many(3*api.MaxMail, 1, 1), []byte{1, 1, 1}))
	}
}

// P9.1, P9.3: loose mail that may not wait, wherever it stands.
func TestLooseBarred(t *testing.T) {
	for _, m := range barred() {
		mayNot(t, queueOf(2, []api.Mail{m}))
		mayNot(t, queueOf(5, append([]api.Mail{m}, mail(1, 1, 2, 2)...)))
		mayNot(t, queueOf(5, append(mail(1, 1, 2, 2), m), []byte{1, 0, 0}))
		mayNot(t, queueOf(5, append(mail(1, 1), m, one(2, 2))))
	}
}

// P9.3: more than MaxMail runs, whether they are runs or not.
func TestManyRuns(t *testing.T) {
	mayNot(t, queueOf(1, nil, times(api.MaxMail+1, []byte{1, 5, 9})...))
	mayNot(t, queueOf(9, nil, times(api.MaxMail+1, nil)...))
	mayNot(t, queueOf(9, nil, times(4*api.MaxMail, []byte{1, 5, 9})...))
}

// P9.3: more than MaxMail pieces of mail in all.
func TestMuchMail(t *testing.T) {
	for _, q := range full() {
		more := q
		more.Runs = append(slices.Clone(q.Runs), []byte{1, 0, 0})
		mayNot(t, more)
		more.Runs = append([][]byte{{1, 0, 0}}, q.Runs...)
		mayNot(t, more)
		more = q
		more.Loose = append(slices.Clone(q.Loose), one(0, 0))
		more.Budget = api.MaxBudget
		if len(more.Loose) < more.Budget {
			mayNot(t, more)
		}
	}
	l := run(rising(api.MaxBudget)...)
	mayNot(t, queueOf(2, mail(1, 1), times(5, l)...))
	mayNot(t, queueOf(2, nil, times(6, l)...))
	mayNot(t, queueOf(2, nil, times(api.MaxMail, l)...))
}

// P9.2: bytes that are no run, written by hand.
func TestNoRun(t *testing.T) {
	noRun(t)                                        // none at all
	noRun(t, 0)                                     // no mail
	noRun(t, 0, 0)                                  // no mail, and a byte behind
	noRun(t, 1)                                     // a To lacks
	noRun(t, 1, 5)                                  // a Value lacks
	noRun(t, 2, 5, 1, 3)                            // the second Value lacks
	noRun(t, 2, 5)                                  // the second To lacks
	noRun(t, 1, 5, 128)                             // a Value ends early
	noRun(t, 1, 128)                                // a To ends early
	noRun(t, 128)                                   // the number ends early
	noRun(t, 1, 5, 3, 0)                            // a byte behind the last one
	noRun(t, 1, 5, 3, 1, 5, 3)                      // a run behind the last one
	noRun(t, 2, 5, 0, 3, 2)                         // Values of the same To that fall
	noRun(t, 3, 5, 0, 0, 3, 4, 2)                   // the same, at the end
	noRun(t, 4, 5, 1, 0, 1, 9, 7, 6, 8)             // the same, in the middle
	noRun(t, 1, 200, 1, 0)                          // To MaxVertices
	noRun(t, 2, 199, 1, 1, 0, 0)                    // the second To MaxVertices
	noRun(t, 129, 0, 5, 3)                          // the number in another form
	noRun(t, 1, 133, 0, 3)                          // the To in another form
	noRun(t, 1, 5, 131, 0)                          // the Value in another form
	noRun(t, 2, 5, 128, 0, 3, 4)                    // a gap in another form
	noRun(t, 1, 5, 129, 128, 128, 128, 128, 128, 1) // MaxDist + 1
	isRun(t, []byte{1, 199, 1, 0}, mail(199, 0))
	isRun(t, []byte{1, 5, 128, 128, 128, 128, 128, 128, 1}, mail(5, api.MaxDist))
	isRun(t, []byte{4, 5, 0, 1, 0, 7, 7, 6, 6}, mail(5, 7, 5, 7, 6, 6, 6, 6))
}

// P9.2: numbers far outside, those among them that 64 bits or an int can't hold.
func TestNoRunFar(t *testing.T) {
	for _, n := range []uint64{api.MaxDist + 1, 1 << 60, 1<<60 + 1, 1<<63 - 1, 1 << 63, 1<<63 + 5, 1<<64 - 1} {
		noRun(t, binary.AppendUvarint([]byte{1, 5}, n)...)
		noRun(t, append(binary.AppendUvarint([]byte{2, 5, 0}, n), 7)...)
		noRun(t, append(binary.AppendUvarint([]byte{1}, n), 7)...)
		noRun(t, append(binary.AppendUvarint([]byte{2, 5}, n), 7, 7)...)
		noRun(t, append(binary.AppendUvarint(nil, n), 5, 7)...)
	}
	over := []byte{255, 255, 255, 255, 255, 255, 255, 255, 255, 2}
	noRun(t, append([]byte{1, 5}, over...)...)
	noRun(t, append([]byte{1}, append(over, 7)...)...)
	noRun(t, append(over, 5, 7)...)
}

// P9.2: 1 to MaxBudget pieces of mail, and one too many.
func TestRunLength(t *testing.T) {
	for _, n := range []int{1, 2, 127, 128, 129, api.MaxBudget - 1, api.MaxBudget} {
		isRun(t, run(rising(n)...), rising(n))
		isRun(t, run(many(n, 199, api.MaxDist)...), many(n, 199, api.MaxDist))
	}
	for _, n := range []int{api.MaxBudget + 1, api.MaxList, api.MaxList + 1, api.MaxMail, api.MaxMail + 1} {
		noRun(t, run(rising(n)...)...)
		noRun(t, run(many(n, 0, 0)...)...)
	}
}

// P9.2: each byte of some runs changed to each other one, left out or doubled, and each beginning, held against the plain model.
func TestRunBytes(t *testing.T) {
	for _, l := range [][]api.Mail{
		mail(3, 5), mail(1, 4, 3, 5), mail(2, 9, 2, 9, 2, 10), mail(0, 0, 199, api.MaxDist), mail(130, 300, 130, 70000, 198, 1),
	} {
		b := run(l...)
		for i := range b {
			asModel(t, b[:i])
			asModel(t, slices.Delete(slices.Clone(b), i, i+1))
			asModel(t, slices.Insert(slices.Clone(b), i, b[i]))
			for x := range 256 {
				other := slices.Clone(b)
				other[i] = byte(x)
				asModel(t, other)
			}
		}
		for x := range 256 {
			asModel(t, append(slices.Clone(b), byte(x)))
		}
	}
}

// P9.2: all rows of up to four of some bytes, held against the plain model.
func TestShortRuns(t *testing.T) {
	digits := []byte{0, 1, 2, 3, 128, 129}
	level := [][]byte{{}}
	for range 5 {
		var next [][]byte
		for _, b := range level {
			asModel(t, b)
			for _, x := range digits {
				next = append(next, append(slices.Clone(b), x))
			}
		}
		level = next
	}
}

// P9.4 to P9.6: rows of drawn mail pushed, held against plain lists: less than the budget is loose, and what was pushed is drained.
func TestDrawn(t *testing.T) {
	d := die(9)
	for _, budget := range []int{1, 2, 3, 5, 16, 99, 100, 101, 1000} {
		for range 8 {
			q := queueOf(budget, nil)
			want := queueOf(budget, nil)
			var all []api.Mail
			for range 100 {
				m := d.mail()
				all = append(all, m)
				want.Loose = append(want.Loose, m)
				if len(want.Loose) == budget {
					want.Runs = append(want.Runs, run(put(want.Loose)...))
					want.Loose = nil
				}
				pushes(t, q, m, want)
				q, _ = Push(q, m)
				if len(q.Loose) >= budget {
					t.Fatalf("%d of mail loose, the budget is %d", len(q.Loose), budget)
				}
				drains(t, q, put(all))
				counts(t, q, len(all))
			}
		}
	}
}

// P9.4: from an empty queue to a full one, push by push.
func TestFill(t *testing.T) {
	d := die(99)
	for _, budget := range []int{97, 999, api.MaxBudget} {
		q := queueOf(budget, nil)
		var all []api.Mail
		for range api.MaxMail {
			m := d.mail()
			all = append(all, m)
			next, e := Push(q, m)
			if e != api.OK || len(next.Loose) >= budget {
				t.Fatalf("push %d: %d of mail loose, %d", len(all), len(next.Loose), e)
			}
			q = next
		}
		noPush(t, q, one(0, 0), api.ErrFull)
		drains(t, q, put(all))
		counts(t, q, api.MaxMail)
		if len(q.Runs) != api.MaxMail/budget || len(q.Loose) != api.MaxMail%budget {
			t.Errorf("%d runs and %d of mail loose, the budget is %d", len(q.Runs), len(q.Loose), budget)
		}
	}
}

// roomy: the queue again, each of its lists within a longer one, to see whether the list or what lies behind it is changed.
func roomy(q api.Queue) api.Queue {
	r := api.Queue{Budget: q.Budget}
	r.Loose = append(slices.Clone(q.Loose), many(8, -77, -77)...)[:len(q.Loose)]
	for _, b := range q.Runs {
		r.Runs = append(r.Runs, append(slices.Clone(b), 77, 77, 77, 77)[:len(b)])
	}
	r.Runs = append(r.Runs, []byte{78}, []byte{79})[:len(q.Runs)]
	return r
}

// whole: all that a queue's lists have, their spare room too, as a text.
func whole(q api.Queue) string {
	s := fmt.Sprint(q.Budget, q.Loose[:cap(q.Loose)])
	for _, b := range q.Runs[:cap(q.Runs)] {
		s += fmt.Sprint(b[:cap(b)])
	}
	return s
}

// spoil a queue's lists with their spare room: nothing else may change by it.
func spoil(q api.Queue) {
	spoilMail(q.Loose)
	runs := q.Runs[:cap(q.Runs)]
	for i, b := range runs {
		b = b[:cap(b)]
		for j := range b {
			b[j] = 99
		}
		runs[i] = nil
	}
}

func spoilMail(l []api.Mail) {
	l = l[:cap(l)]
	for i := range l {
		l[i] = one(-99, -99)
	}
}

// memoryOf some queues: with and without loose mail and runs, just ahead of a run, refused ones too.
func memoryOf() []api.Queue {
	l := rising(200)
	return []api.Queue{
		queueOf(2, nil), queueOf(1, nil), queueOf(4, mail(3, 3, 2, 2)), queueOf(3, mail(3, 3, 2, 2)),
		queueOf(1, nil, run(l...), run(l[:1]...)), queueOf(2, nil, run(l...)), queueOf(9, mail(9, 9), run(l...), run(l[5:]...)),
		queueOf(2, mail(9, 9), run(l[:1]...), run(l[:1]...), run(l[:1]...)),
		queueOf(2, mail(3, 3, 2, 2)), queueOf(3, mail(3, 3), run(l...), []byte{0}), queueOf(3, mail(-3, 3)),
	}
}

// P9.4: what is handed in stays, its spare room too, and the answer is new memory.
func TestPushMemory(t *testing.T) {
	for _, plain := range memoryOf() {
		for _, m := range mail(0, 4, 5, 5, -1, 0) {
			q := roomy(plain)
			before := whole(q)
			got, e := Push(q, m)
			again, f := Push(q, m)
			if e != f || !same(got, again) {
				t.Fatalf("Push %s %v: %s, then %s", tell(plain), m, tell(got), tell(again))
			}
			kept := whole(again)
			spoil(got)
			if whole(q) != before {
				t.Fatalf("Push %s %v changed its argument, or shares memory with it", tell(plain), m)
			}
			if whole(again) != kept {
				t.Fatalf("Push %s %v: two answers share memory", tell(plain), m)
			}
			noneShared(t, again)
		}
	}
}

// noneShared: each run of an answer can be spoilt, its spare room too, without a change to the others.
func noneShared(t *testing.T, q api.Queue) {
	t.Helper()
	for i := range q.Runs {
		others := slices.Delete(slices.Clone(q.Runs), i, i+1)
		before := whole(api.Queue{Loose: q.Loose, Runs: others})
		b := q.Runs[i][:cap(q.Runs[i])]
		for j := range b {
			b[j] ^= 255
		}
		if whole(api.Queue{Loose: q.Loose, Runs: others}) != before {
			t.Fatalf("run %d of %s shares memory", i, tell(q))
		}
	}
}

// P9.5, P9.6: what is handed in stays, its spare room too, and what is drained is new memory.
func TestDrainMemory(t *testing.T) {
	for _, plain := range memoryOf() {
		q := roomy(plain)
		before := whole(q)
		got, e := Drain(q)
		again, f := Drain(q)
		n, g := Count(q)
		if e != f || e != g || !slices.Equal(got, again) || n != len(got) {
			t.Fatalf("Drain %s: %s %d, then %s %d, Count %d %d", tell(plain), tell(got), e, tell(again), f, n, g)
		}
		kept := slices.Clone(again)
		spoilMail(got)
		if whole(q) != before {
			t.Fatalf("Drain %s changed its argument, or shares memory with it", tell(plain))
		}
		if !slices.Equal(again, kept) {
			t.Fatalf("Drain %s: two answers share memory", tell(plain))
		}
	}
}
