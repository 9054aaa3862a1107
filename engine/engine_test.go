package engine

import (
	"fmt"
	"math"
	"reflect"
	"slices"
	"strconv"
	"strings"
	"testing"

	"paceline/api"
	"paceline/disk"
	"paceline/rounds"
)

// edge from a vertex to another one, with its weight.
func edge(from, to, weight int) api.Edge { return api.Edge{From: from, To: to, Weight: weight} }

func graphOf(n int, l ...api.Edge) api.Graph { return api.Graph{N: n, Edges: l} }

func jobOf(kind int, g api.Graph) api.Job { return api.Job{Graph: g, Kind: kind} }

// taskOf a job: with so many workers, nothing is saved soon, and two pieces of mail are not loose.
func taskOf(j api.Job, workers int) api.Task {
	return api.Task{Job: j, Workers: workers, Every: api.MaxStep, Budget: 2}
}

// pair: two joined vertices and two workers, who save so often.
func pair(every int) api.Task {
	t := taskOf(jobOf(api.Weak, graphOf(2, edge(0, 1, 0))), 2)
	t.Every = every
	return t
}

// chain of vertices, each with an edge of that weight to the next one.
func chain(n, weight int) api.Graph {
	g := graphOf(n)
	for v := range n - 1 {
		g.Edges = append(g.Edges, edge(v, v+1, weight))
	}
	return g
}

// moves by their words: "work 0, carry 3, crash 1 20, lead".
func moves(s string) []api.Move {
	var l []api.Move
	for _, line := range strings.Split(s, ",") {
		words := strings.Fields(line)
		if len(words) == 0 {
			continue
		}
		kind := slices.Index([]string{"", "work", "carry", "lose", "double", "all", "crash", "start", "lead"}, words[0])
		if kind < 1 {
			panic("no such move: " + line)
		}
		numbers := make([]int, 2)
		for i, w := range words[1:] {
			n, err := strconv.Atoi(w)
			if err != nil {
				panic(err)
			}
			numbers[i] = n
		}
		l = append(l, api.Move{Kind: kind, At: numbers[0], Keep: numbers[1]})
	}
	return l
}

// times: a script so many times.
func times(n int, s string) string { return strings.Repeat(s+", ", n) }

func same(a, b api.Outcome) bool {
	return a.Status == b.Status && a.Epoch == b.Epoch && a.Step == b.Step && a.Saved == b.Saved && a.Flying == b.Flying && a.Most == b.Most &&
		slices.Equal(a.Values, b.Values) && slices.EqualFunc(a.Handed, b.Handed, sameHanded)
}

func sameHanded(a, b api.Handed) bool {
	return a.Epoch == b.Epoch && a.Step == b.Step && a.Vertex == b.Vertex && slices.Equal(a.Mail, b.Mail)
}

func zero(o api.Outcome) bool { return same(o, api.Outcome{}) }

// tell in short what was handed in or answered.
func tell(x any) string { return fmt.Sprintf("%.1500s", fmt.Sprint(x)) }

func tellMoves(l []api.Move) string {
	return fmt.Sprintf("%d moves %s", len(l), tell(l))
}

// runs: the outcome behind a script is this one: Status, Epoch, Step, Saved, Flying, Most, Values, Handed.
func runs(t *testing.T, x api.Task, script, want string) {
	t.Helper()
	o, e := Run(x, moves(script))
	if got := fmt.Sprint(o); e != api.OK || got != want {
		t.Errorf("Run %s behind %q =\n%s %d, want\n%s", tell(x), script, got, e, want)
	}
}

// numbers of the outcome behind a script: Status, Epoch, Step, Saved, Flying, Most, and how many wakings.
func numbers(t *testing.T, x api.Task, script, want string) {
	t.Helper()
	o, e := Run(x, moves(script))
	if got := fmt.Sprint(o.Status, o.Epoch, o.Step, o.Saved, o.Flying, o.Most, len(o.Handed)); e != api.OK || got != want {
		t.Errorf("Run %s behind %q = %s %d, want %s", tell(x), script, got, e, want)
	}
}

// doesNothing: one script more, behind another one.
func doesNothing(t *testing.T, x api.Task, script, more string) {
	t.Helper()
	want, e := Run(x, moves(script))
	got, e2 := Run(x, moves(script+", "+more))
	if e != api.OK || e2 != api.OK || !same(got, want) {
		t.Errorf("Run %s behind %q and %q = %s %d, want %s %d", tell(x), script, more, tell(got), e2, tell(want), e)
	}
}

func noRun(t *testing.T, x api.Task, l []api.Move, want api.Errno) {
	t.Helper()
	if o, e := Run(x, l); e != want || !zero(o) {
		t.Errorf("Run %s behind %s = %s %d, want none, %d", tell(x), tellMoves(l), tell(o), e, want)
	}
}

func limit(t *testing.T, x api.Task, want int) {
	t.Helper()
	if n, e := Limit(x); e != api.OK || n != want {
		t.Errorf("Limit %s = %d %d, want %d", tell(x), n, e, want)
	}
}

// refused: Check, Run and Limit answer that error, whatever the moves.
func refused(t *testing.T, x api.Task, want api.Errno) {
	t.Helper()
	if e := Check(x); e != want {
		t.Errorf("Check %s = %d, want %d", tell(x), e, want)
	}
	if n, e := Limit(x); e != want || n != 0 {
		t.Errorf("Limit %s = %d %d, want 0 %d", tell(x), n, e, want)
	}
	for _, l := range [][]api.Move{nil, {}, moves("work 0, lead"), {{Kind: 0}}, {{Kind: 9}}, {{Kind: api.Work, At: -1}}, make([]api.Move, api.MaxMoves+1)} {
		noRun(t, x, l, want)
	}
}

func right(t *testing.T, x api.Task) {
	t.Helper()
	if e := Check(x); e != api.OK {
		t.Errorf("Check %s = %d", tell(x), e)
	}
	if _, e := Limit(x); e != api.OK {
		t.Errorf("Limit %s = %d", tell(x), e)
	}
	if _, e := Run(x, nil); e != api.OK {
		t.Errorf("Run %s = %d", tell(x), e)
	}
}

// outside: numbers that are not from 1 to most.
func outside(most int) []int {
	return []int{0, -1, -2, -most, math.MinInt, math.MinInt + 1, most + 1, most + 2, 2 * most, 1 << 32, 1<<32 + 1, math.MaxInt}
}

// P16.1: tasks that are right, at all edges.
func TestCheck(t *testing.T) {
	for workers := 1; workers <= api.MaxWorkers; workers++ {
		for _, every := range []int{1, 2, api.MaxStep - 1, api.MaxStep} {
			for _, budget := range []int{1, 2, api.MaxBudget - 1, api.MaxBudget} {
				for kind := api.Dist; kind <= api.Strong; kind++ {
					for _, g := range []api.Graph{graphOf(1), graphOf(2, edge(0, 1, 5)), chain(9, 1)} {
						right(t, api.Task{Job: jobOf(kind, g), Workers: workers, Every: every, Budget: budget})
					}
				}
			}
		}
		for _, source := range []int{0, -1, 7, math.MinInt, math.MaxInt} {
			right(t, taskOf(api.Job{Kind: api.Weak, Source: source}, workers))
			right(t, taskOf(api.Job{Kind: api.Strong, Source: source}, workers))
		}
	}
	right(t, taskOf(jobOf(api.Weak, graphOf(api.MaxVertices, make([]api.Edge, api.MaxEdges)...)), api.MaxWorkers))
	right(t, taskOf(jobOf(api.Dist, graphOf(1, edge(0, 0, api.MaxWeight))), 1))
}

// wrongJobs: with what rounds refuses them.
func wrongJobs() []api.Job {
	return []api.Job{
		jobOf(api.Weak, graphOf(-1)),
		jobOf(api.Weak, graphOf(api.MaxVertices+1)),
		jobOf(api.Weak, graphOf(math.MaxInt)),
		jobOf(api.Weak, graphOf(3, make([]api.Edge, api.MaxEdges+1)...)),
		jobOf(api.Weak, graphOf(2, edge(0, 2, 1))),
		jobOf(api.Strong, graphOf(2, edge(-1, 0, 1))),
		jobOf(api.Dist, graphOf(2, edge(0, 1, -1))),
		jobOf(api.Dist, graphOf(2, edge(0, 1, api.MaxWeight+1))),
		jobOf(0, graphOf(2)),
		jobOf(4, graphOf(2)),
		jobOf(math.MinInt, graphOf(2)),
		jobOf(-1, graphOf(2, edge(0, 5, 1))),
		jobOf(7, graphOf(-3)),
		jobOf(api.Dist, graphOf(0)),
		{Graph: graphOf(2), Kind: api.Dist, Source: 2},
		{Graph: graphOf(2), Kind: api.Dist, Source: -1},
		{Graph: graphOf(2), Kind: api.Dist, Source: math.MaxInt},
	}
}

// P16.1: what rounds refuses of the job is told as there, ahead of wrong numbers of the task.
func TestCheckJob(t *testing.T) {
	errors := map[api.Errno]int{}
	for _, j := range wrongJobs() {
		want := rounds.Check(j)
		errors[want]++
		refused(t, taskOf(j, 2), want)
		refused(t, api.Task{Job: j}, want)
		refused(t, api.Task{Job: j, Workers: api.MaxWorkers + 1, Every: -1, Budget: api.MaxBudget + 1}, want)
	}
	if errors[api.OK] > 0 || errors[api.ErrSize] == 0 || errors[api.ErrRange] == 0 || errors[api.ErrForm] == 0 {
		t.Errorf("the jobs are refused %v", errors)
	}
}

// P16.1: each number of a task by itself out of its bounds, and all of them; without vertices, too.
func TestCheckRange(t *testing.T) {
	for _, g := range []api.Graph{{}, graphOf(2, edge(0, 1, 0))} {
		plain := taskOf(jobOf(api.Weak, g), 2)
		for _, n := range outside(api.MaxWorkers) {
			x := plain
			x.Workers = n
			refused(t, x, api.ErrRange)
		}
		for _, n := range outside(api.MaxStep) {
			x := plain
			x.Every = n
			refused(t, x, api.ErrRange)
		}
		for _, n := range outside(api.MaxBudget) {
			x := plain
			x.Budget = n
			refused(t, x, api.ErrRange)
			x.Workers, x.Every = n, n
			if n < 1 || n > api.MaxStep {
				refused(t, x, api.ErrRange)
			}
		}
	}
}

// P16.2: as many moves as may be, and one more, whatever they are.
func TestRunMany(t *testing.T) {
	x := pair(1)
	full := slices.Repeat([]api.Move{{Kind: api.Lead}}, api.MaxMoves)
	if o, e := Run(x, full); e != api.OK || !zero(o) {
		t.Errorf("Run behind %s = %s %d", tellMoves(full), tell(o), e)
	}
	long := slices.Repeat(moves("work 0"), api.MaxMoves)
	if o, e := Run(x, long); e != api.OK || o.Flying != api.MaxMoves-1 || len(o.Handed) != 1 {
		t.Errorf("Run behind %s = %s %d", tellMoves(long), tell(o), e)
	}
	noRun(t, x, append(full, api.Move{Kind: api.Lead}), api.ErrSize)
	noRun(t, x, append(full, api.Move{Kind: 0}), api.ErrSize)
	noRun(t, x, make([]api.Move, api.MaxMoves+1), api.ErrSize)
	noRun(t, x, slices.Repeat([]api.Move{{Kind: api.Work, At: -1}}, api.MaxMoves+1), api.ErrSize)
	full[api.MaxMoves-1] = api.Move{Kind: api.Work, At: 2}
	noRun(t, x, full, api.ErrRange)
}

// wrongMoves of a task with so many workers, and the error of each.
func wrongMoves(workers int) map[api.Move]api.Errno {
	m := map[api.Move]api.Errno{}
	for _, kind := range []int{0, -1, -8, 9, 10, 257, 1 << 32, 1<<32 + 1, math.MinInt, math.MaxInt} {
		for _, at := range []int{0, -1, workers} {
			m[api.Move{Kind: kind, At: at}] = api.ErrForm
			m[api.Move{Kind: kind, At: at, Keep: -1}] = api.ErrForm
		}
	}
	for _, at := range []int{-1, -2, math.MinInt} {
		for _, kind := range []int{api.Work, api.Carry, api.Lose, api.Double, api.Crash, api.Start} {
			m[api.Move{Kind: kind, At: at}] = api.ErrRange
			m[api.Move{Kind: kind, At: at, Keep: -1}] = api.ErrRange
		}
		m[api.Move{Kind: api.Crash, Keep: at}] = api.ErrRange
		m[api.Move{Kind: api.Crash, At: workers - 1, Keep: at}] = api.ErrRange
	}
	for _, at := range []int{workers, workers + 1, api.MaxWorkers, 1 << 32, math.MaxInt} {
		for _, kind := range []int{api.Work, api.Crash, api.Start} {
			m[api.Move{Kind: kind, At: at}] = api.ErrRange
			m[api.Move{Kind: kind, At: at, Keep: 1}] = api.ErrRange
		}
	}
	return m
}

// P16.2: each wrong move, by itself, ahead of and behind right ones; of two wrong ones the first one tells.
func TestRunWrong(t *testing.T) {
	for _, workers := range []int{1, 2, 7, api.MaxWorkers} {
		x := taskOf(jobOf(api.Weak, chain(3, 1)), workers)
		none := taskOf(api.Job{Kind: api.Weak}, workers)
		for m, want := range wrongMoves(workers) {
			noRun(t, x, []api.Move{m}, want)
			noRun(t, none, []api.Move{m}, want)
			noRun(t, x, append(fairRounds(x, 3), m), want)
			noRun(t, x, append([]api.Move{m}, fairRounds(x, 3)...), want)
			// Behind the end moves do nothing, but may be wrong.
			noRun(t, x, append(fairRounds(x, 100), m), want)
			noRun(t, x, []api.Move{m, {Kind: 0}}, want)
			noRun(t, x, []api.Move{m, {Kind: api.Work, At: -1}}, want)
			noRun(t, x, []api.Move{{Kind: 0}, m}, api.ErrForm)
			noRun(t, x, []api.Move{{Kind: api.Work, At: -1}, m}, api.ErrRange)
		}
	}
}

// P16.2: what of At and Keep a kind does not use may be anything.
func TestRunUnused(t *testing.T) {
	x := pair(2)
	any := []int{0, -1, 5, math.MinInt, math.MaxInt}
	for _, at := range any {
		for _, keep := range any {
			l := fairRounds(x, 2)
			for i := range l {
				l[i].Keep = keep
				if l[i].Kind == api.All || l[i].Kind == api.Lead {
					l[i].At = at
				}
			}
			want, _ := Run(x, fairRounds(x, 2))
			if got, e := Run(x, l); e != api.OK || !same(got, want) {
				t.Errorf("Run %s = %s %d, want %s", tellMoves(l), tell(got), e, tell(want))
			}
			for _, kind := range []int{api.Carry, api.Lose, api.Double, api.Work, api.Start} {
				if o, e := Run(x, []api.Move{{Kind: kind, Keep: keep}}); e != api.OK || len(o.Handed) > 1 {
					t.Errorf("Run of kind %d with Keep %d = %s %d", kind, keep, tell(o), e)
				}
			}
		}
	}
	// A place may be any, a crash may keep any number.
	numbers(t, x, "work 0, work 0, carry 9223372036854775807", "0 0 0 0 1 1 1")
	numbers(t, x, "crash 0 9223372036854775807, crash 1 0", "0 0 0 0 0 0 0")
}

// The examples of the whole, move by move.
func TestExample(t *testing.T) {
	x := pair(5)
	runs(t, x, "", "{0 0 0 0 0 0 [] []}")
	runs(t, x, "work 0", "{0 0 0 0 0 0 [] [{0 0 0 []}]}")
	first := "work 0, work 1"
	runs(t, x, first, "{0 0 0 0 0 0 [] [{0 0 0 []} {0 0 1 []}]}")
	doesNothing(t, x, first, "lead")
	runs(t, x, first+", work 0, work 1", "{0 0 0 0 2 0 [] [{0 0 0 []} {0 0 1 []}]}")
	doesNothing(t, x, first+", work 0, work 1", "lead")
	came := first + ", work 0, work 1, all"
	runs(t, x, came, "{0 0 0 0 2 1 [] [{0 0 0 []} {0 0 1 []}]}")
	runs(t, x, came+", lead", "{0 0 1 0 2 1 [] [{0 0 0 []} {0 0 1 []}]}")
	doesNothing(t, x, came+", lead", "lead, lead")
	second := came + ", lead, work 0, work 1"
	runs(t, x, second, "{0 0 1 0 2 1 [] [{0 0 0 []} {0 0 1 []} {0 1 0 [1]} {0 1 1 [0]}]}")
	third := second + ", all, work 1, all, lead"
	runs(t, x, third, "{0 0 2 0 1 1 [] [{0 0 0 []} {0 0 1 []} {0 1 0 [1]} {0 1 1 [0]}]}")
	runs(t, x, third+", work 0, lead", "{1 0 3 0 1 1 [{0 -1} {0 -1}] [{0 0 0 []} {0 0 1 []} {0 1 0 [1]} {0 1 1 [0]} {0 2 0 [0]}]}")
	for _, script := range []string{"", first, came, came + ", lead", second, third} {
		o, _ := Run(x, moves(script))
		o.Epoch, o.Step = 1, 0
		for _, again := range []string{"crash 1 0, start 1, lead", "crash 0 7, crash 1 0, start 1, start 0, lead"} {
			if got, e := Run(x, moves(script+", "+again)); e != api.OK || !same(got, o) {
				t.Errorf("behind %q %q: %s %d, want %s", script, again, tell(got), e, tell(o))
			}
		}
	}
}

// P16.3: a worker wakes its vertices one by one, rising, and sends only when none is left; a fresh round wakes all, another one those with mail.
func TestWork(t *testing.T) {
	// Worker 0 has 0, 2, 4, and worker 1 has 1, 3.
	x := taskOf(jobOf(api.Weak, graphOf(5, edge(4, 3, 0), edge(0, 2, 0))), 2)
	runs(t, x, "work 0, work 0", "{0 0 0 0 0 1 [] [{0 0 0 []} {0 0 2 []}]}")
	runs(t, x, "work 1, work 0, work 1, work 1, work 0, work 0", "{0 0 0 0 1 1 [] [{0 0 1 []} {0 0 0 []} {0 0 3 []} {0 0 2 []} {0 0 4 []}]}")
	round := times(3, "work 0, work 1") + "work 0, work 1, all, lead"
	// In round 1 vertices 0 (mail 2), 2 (0), 4 (3) and 3 (4) wake, 1 does not. Three acks are on the way, and what is not acked is sent eight times.
	runs(t, x, round+", "+times(9, "work 1")+"work 0",
		"{0 0 1 0 11 1 [] [{0 0 0 []} {0 0 1 []} {0 0 2 []} {0 0 3 []} {0 0 4 []} {0 1 3 [4]} {0 1 0 [2]}]}")
}

// P16.3: with all vertices awake once, what is due is sent on all links, in the order of the workers, and again with each piece of work; of each link a Window.
func TestWorkSends(t *testing.T) {
	// 0 of worker 0 has six edges to 1 of worker 1, two to 2 of worker 2, and one to 3, of worker 0 again.
	g := graphOf(4, edge(0, 2, 0), edge(0, 3, 0), edge(0, 2, 0))
	for range 6 {
		g.Edges = append(g.Edges, edge(0, 1, 0))
	}
	x := taskOf(jobOf(api.Dist, g), 3)
	x.Budget = 100
	script := "work 0, work 0"
	numbers(t, x, script, "0 0 0 0 0 1 2")
	numbers(t, x, script+", work 0", "0 0 0 0 6 1 2")
	numbers(t, x, script+", work 0, work 0, work 0", "0 0 0 0 18 1 2")
	// The first four come to worker 1, and make it 4 of Most; the next two to worker 2.
	numbers(t, x, script+", work 0, carry 0, carry 0, carry 0, carry 0", "0 0 0 0 6 4 2")
	numbers(t, x, script+", work 0, carry 4, carry 4", "0 0 0 0 6 2 2")
	// Another order than that of the numbers: not the wanted ones; these come when they are sent again.
	numbers(t, x, script+", work 0, carry 3, carry 2, carry 1", "0 0 0 0 6 1 2")
	numbers(t, x, script+", work 0, carry 3, carry 2, carry 1, carry 0", "0 0 0 0 6 1 2")
	// Acks make room for the rest of the six.
	numbers(t, x, script+", work 0, all, all, work 0", "0 0 0 0 2 4 2")
	numbers(t, x, script+", work 0, all, all, work 0, all", "0 0 0 0 2 6 2")
	numbers(t, x, script+", work 0, all, all, work 0, all, all, work 0", "0 0 0 0 0 6 2")
}

// P16.3: Carry, Lose and Double, at places counted round and round, from the one that was sent first.
func TestCarry(t *testing.T) {
	// 0 says to 1, 2 and 3, of the workers 1, 2 and 3; each of them says to 0.
	x := taskOf(jobOf(api.Weak, graphOf(4, edge(0, 1, 0), edge(0, 2, 0), edge(0, 3, 0))), 4)
	x.Budget = 9
	sent := "work 0, work 1, work 2, work 3, work 0"
	numbers(t, x, sent, "0 0 0 0 3 0 4")
	for _, place := range []int{0, 1, 2, 3, 4, 5, 3000001, 3 << 40} {
		at := strconv.Itoa(place)
		// It comes, and its ack is behind the other two; then that comes, and nothing of the packet is on the way.
		numbers(t, x, sent+", carry "+at, "0 0 0 0 3 1 4")
		numbers(t, x, sent+", carry "+at+", carry 2", "0 0 0 0 2 1 4")
		numbers(t, x, sent+", carry "+at+", carry 2, work 0", "0 0 0 0 4 1 4")
		numbers(t, x, sent+", lose "+at, "0 0 0 0 2 0 4")
		numbers(t, x, sent+", lose "+at+", work 0", "0 0 0 0 5 0 4")
		numbers(t, x, sent+", double "+at, "0 0 0 0 4 1 4")
		// What was doubled comes again from its place, and is acked again, but is not handed on.
		numbers(t, x, sent+", double "+at+", carry "+strconv.Itoa(place%3), "0 0 0 0 4 1 4")
		numbers(t, x, sent+", double "+at+", carry "+strconv.Itoa(place%3)+", carry 2, carry 2, work 0", "0 0 0 0 4 1 4")
	}
	// The three that stay at their places when the midst one is doubled: at the places 0, 1, 2, and the ack at 3.
	numbers(t, x, sent+", double 1, lose 0, lose 0, lose 0, carry 0, work 0", "0 0 0 0 2 1 4")
	numbers(t, x, sent+", double 1, lose 3, work 0", "0 0 0 0 6 1 4")
}

// P16.3: All: those that are on the way come, those that they cause stay.
func TestAll(t *testing.T) {
	x := taskOf(jobOf(api.Weak, graphOf(3, edge(0, 1, 0), edge(0, 2, 0))), 3)
	sent := "work 0, work 1, work 2, work 0, work 1, work 2"
	numbers(t, x, sent, "0 0 0 0 4 0 3")
	numbers(t, x, sent+", all", "0 0 0 0 4 1 3")
	numbers(t, x, sent+", all, all", "0 0 0 0 0 1 3")
	numbers(t, x, sent+", double 0, all", "0 0 0 0 4 1 3")
	// Nothing is due once the acks have come.
	doesNothing(t, x, sent+", all, all", "work 0, work 1, work 2")
	numbers(t, x, sent+", all, work 0, work 1, work 2", "0 0 0 0 8 1 3")
}

// P16.3: with none on the way these four do nothing, whatever the place.
func TestNoneOnTheWay(t *testing.T) {
	for _, script := range []string{"", "work 0", "work 0, work 1", "work 0, work 0, lose 0", "work 0, work 1, work 0, work 1, all, all"} {
		for _, kind := range []string{"carry", "lose", "double"} {
			for _, at := range []string{"0", "1", "7", "9223372036854775807"} {
				doesNothing(t, pair(5), script, kind+" "+at)
			}
		}
		doesNothing(t, pair(5), script, "all")
	}
}

// P16.3: a Crash of a worker that is down and a Start of one that is up do nothing.
func TestCrashTwice(t *testing.T) {
	x := pair(1)
	for _, script := range []string{"", "work 0", "work 0, work 1, work 0", "work 0, work 1, work 0, work 1, all, lead, work 0, work 1"} {
		doesNothing(t, x, script, "start 0, start 1")
		// An epoch begins only when one has come up again.
		doesNothing(t, x, script, "start 0, start 1, start 0, crash 0 0, crash 1 0, lead, crash 0 3, crash 1 4")
		o, _ := Run(x, moves(script+", crash 0 0, start 0, lead"))
		for _, same := range []string{"crash 0 0, crash 0 9, start 0, start 0, lead", "crash 0 0, lead, work 0, start 0, start 1, lead", "crash 0 0, start 0, crash 0 9, lead, start 0, lead"} {
			if got, e := Run(x, moves(script+", "+same)); e != api.OK || fmt.Sprint(got) != fmt.Sprint(o) {
				t.Errorf("behind %q %q: %s %d, want %s", script, same, tell(got), e, tell(o))
			}
		}
		if o.Epoch != 1 {
			t.Errorf("behind %q and a crash: %s", script, tell(o))
		}
	}
	numbers(t, x, times(3, "crash 0 0, start 0, lead, lead"), "0 3 0 0 0 0 0")
	numbers(t, x, "crash 0 0, crash 1 0, start 1, lead, start 0, lead, lead", "0 1 0 0 0 0 0")
}

// P16.3: a worker that crashes has its disk alone, behind a crash with Keep: what it wrote, and did not seal, is torn.
func TestCrashLeavesDisk(t *testing.T) {
	x := pair(1)
	for _, script := range []string{"", "work 0", roundOf, roundOf + ", work 0", roundOf + ", work 0, work 0", roundOf + ", work 0, work 0, work 1, work 1, lead"} {
		for _, keep := range []int{0, 1, 3, 1000000} {
			w := newWorld(x)
			for _, m := range moves(script) {
				w.move(m)
			}
			want, e := disk.Crash(w.crew[0].disk, keep)
			w.move(api.Move{Kind: api.Crash, At: 0, Keep: keep})
			if got := *w.crew[0]; e != api.OK || !reflect.DeepEqual(got, worker{disk: want}) {
				t.Errorf("behind %q and a crash that keeps %d: %s, want its disk alone, %s", script, keep, tell(got), tell(want))
			}
			w.move(api.Move{Kind: api.Start, At: 0})
			if got := *w.crew[0]; !reflect.DeepEqual(got, worker{disk: want, up: true}) {
				t.Errorf("behind %q, a crash that keeps %d and a start: %s, want its disk alone, %s", script, keep, tell(got), tell(want))
			}
		}
	}
}

// P16.3: what a worker that is down, or waits for the lead, is moved to do is not done; others go on in the old epoch.
func TestDown(t *testing.T) {
	x := pair(5)
	for _, down := range []string{"crash 1 0", "crash 1 0, start 1"} {
		doesNothing(t, x, down, "work 1, work 1")
		runs(t, x, down+", work 1, work 0, work 0, work 0", "{0 0 0 0 2 0 [] [{0 0 0 []}]}")
		numbers(t, x, "work 1, "+down+", work 1, work 1", "0 0 0 0 0 0 1")
	}
	// Lead does nothing while one is down, not even end a round.
	over := "work 0, work 1, work 0, work 1, all"
	doesNothing(t, x, over+", crash 0 0", "lead")
	doesNothing(t, x, over+", crash 1 0", "lead, lead")
	doesNothing(t, x, over+", crash 0 0, crash 1 0, start 1", "lead")
	runs(t, x, over+", crash 1 0, start 1, lead", "{0 1 0 0 2 1 [] [{0 0 0 []} {0 0 1 []}]}")
	// Behind the lead all wake again.
	runs(t, x, over+", crash 1 0, start 1, lead, work 1, work 0", "{0 1 0 0 2 1 [] [{0 0 0 []} {0 0 1 []} {1 0 1 []} {1 0 0 []}]}")
	// Nor does it begin the round that all have saved for.
	saved := over + ", lead, work 0, work 0, work 1, work 1"
	doesNothing(t, pair(1), saved+", crash 1 0", "lead, lead")
	numbers(t, pair(1), saved+", lead", "0 0 1 1 2 1 2")
	numbers(t, pair(1), saved+", crash 1 0, start 1, lead", "0 1 0 0 2 1 2")
}

// P16.4: a datagram that comes to a worker that is down, or waits, is lost; what was doubled stays on the way.
func TestLostAtDown(t *testing.T) {
	x := pair(5)
	sent := "work 0, work 1, work 0"
	for _, down := range []string{", crash 1 0", ", crash 1 0, start 1"} {
		numbers(t, x, sent+down, "0 0 0 0 1 0 2")
		numbers(t, x, sent+down+", carry 0", "0 0 0 0 0 0 2")
		numbers(t, x, sent+down+", all", "0 0 0 0 0 0 2")
		numbers(t, x, sent+down+", lose 0", "0 0 0 0 0 0 2")
		numbers(t, x, sent+down+", double 0", "0 0 0 0 1 0 2")
		// An ack, too.
		numbers(t, x, "work 0, work 1, work 0, carry 0, crash 0 0, carry 0", "0 0 0 0 0 1 2")
	}
	// What the worker sent ahead of its crash comes, and is acked.
	numbers(t, x, sent+", crash 0 0", "0 0 0 0 1 0 2")
	numbers(t, x, sent+", crash 0 0, carry 0", "0 0 0 0 1 1 2")
	numbers(t, x, sent+", crash 0 0, start 0, carry 0, carry 0", "0 0 0 0 0 1 2")
}

// P16.4: packets and acks of another epoch do nothing, and are on the way no more.
func TestOldEpoch(t *testing.T) {
	x := pair(5)
	back := ", crash 1 0, start 1, lead, work 0, work 1"
	old := "work 0, work 1, work 0, work 1" + back
	numbers(t, x, old, "0 1 0 0 2 0 4")
	numbers(t, x, old+", carry 0", "0 1 0 0 1 0 4")
	numbers(t, x, old+", all", "0 1 0 0 0 0 4")
	numbers(t, x, old+", double 0, double 1", "0 1 0 0 2 0 4")
	doesNothing(t, x, old+", all", "lead")
	// New ones come, behind them or among them.
	numbers(t, x, old+", work 0, work 1, all", "0 1 0 0 2 1 4")
	numbers(t, x, old+", work 0, work 1, all, lead", "0 1 1 0 2 1 4")
	// Old acks: two packets are due still, and stay so.
	acks := "work 0, work 1, work 0, work 1, all" + back
	numbers(t, x, acks+", all, work 0, work 1", "0 1 0 0 2 1 4")
	numbers(t, x, acks+", work 0, work 1, carry 0, carry 0, work 0, work 1", "0 1 0 0 4 1 4")
	// Old ones of two epochs and new ones, all on the way.
	two := old + ", work 0, work 1, crash 0 0, start 0, lead, work 0, work 1, work 0, work 1"
	numbers(t, x, two, "0 2 0 0 6 0 6")
	numbers(t, x, two+", all", "0 2 0 0 2 1 6")
	numbers(t, x, two+", all, lead", "0 2 1 0 2 1 6")
}

// roundOf the pair: all wakes that there are, all mail comes, and the acks.
const roundOf = "work 0, work 1, work 0, work 1, all, all, lead"

// P16.5: all are asked to save when the next Step is a multiple of Every: one piece writes, one seals; till all have the round does not begin.
func TestSave(t *testing.T) {
	x := pair(1)
	numbers(t, x, roundOf, "0 0 0 0 0 1 2")
	doesNothing(t, x, roundOf, "lead, lead")
	// Pieces of work that write and seal do not show, and wake nothing.
	doesNothing(t, x, roundOf, "work 0, lead, work 0, lead, work 0, work 0, lead, work 1, lead")
	numbers(t, x, roundOf+", work 0, work 1, work 0, work 1", "0 0 0 0 0 1 2")
	saved := roundOf + ", work 0, work 1, work 0, work 1, lead"
	numbers(t, x, saved, "0 0 1 1 0 1 2")
	doesNothing(t, x, saved, "lead, lead")
	runs(t, x, saved+", work 0, work 1", "{0 0 1 1 0 1 [] [{0 0 0 []} {0 0 1 []} {0 1 0 [1]} {0 1 1 [0]}]}")
	numbers(t, x, roundOf+", work 1, work 1, work 0, work 0, lead", "0 0 1 1 0 1 2")
	// The state behind the last round is Done: it is not saved.
	all := roundOf + ", work 0, work 1, work 0, work 1, lead, "
	numbers(t, x, all+all+"work 0, lead", "1 0 3 2 0 1 5")
	// Every other round.
	y := pair(2)
	numbers(t, y, roundOf, "0 0 1 0 0 1 2")
	numbers(t, y, roundOf+", "+roundOf, "0 0 1 0 0 1 4")
	numbers(t, y, roundOf+", "+roundOf+", work 0, work 1, work 0, work 1, lead", "0 0 2 2 0 1 4")
	numbers(t, pair(3), times(3, roundOf), "1 0 3 0 0 1 5")
}

// P16.3: a worker that has sealed sends what is due, if it works on.
func TestSaveSends(t *testing.T) {
	x := pair(1)
	unacked := "work 0, work 1, work 0, work 1, all, lead"
	numbers(t, x, unacked, "0 0 0 0 2 1 2")
	numbers(t, x, unacked+", work 0, work 0", "0 0 0 0 2 1 2")
	numbers(t, x, unacked+", work 0, work 0, work 0", "0 0 0 0 3 1 2")
	// It comes again while they save, and is nobody's mail.
	runs(t, x, unacked+", work 0, work 0, work 0, all, work 1, work 1, lead, work 0, work 1",
		"{0 0 1 1 1 1 [] [{0 0 0 []} {0 0 1 []} {0 1 0 [1]} {0 1 1 [0]}]}")
}

// P16.5: all go back to what was saved last, ahead of anything that was to the beginning.
func TestGoBack(t *testing.T) {
	saves := roundOf + ", work 0, work 1, work 0, work 1, lead"
	back := ", crash 1 0, start 1, lead"
	numbers(t, pair(1), roundOf+back, "0 1 0 0 0 1 2")
	numbers(t, pair(1), saves+back, "0 1 1 1 0 1 2")
	runs(t, pair(1), saves+back+", work 1, work 0", "{0 1 1 1 0 1 [] [{0 0 0 []} {0 0 1 []} {1 1 1 [0]} {1 1 0 [1]}]}")
	runs(t, pair(1), saves+", work 0, work 1"+back+", work 1, work 0",
		"{0 1 1 1 0 1 [] [{0 0 0 []} {0 0 1 []} {0 1 0 [1]} {0 1 1 [0]} {1 1 1 [0]} {1 1 0 [1]}]}")
	// Not saved since: rounds that were over are done again.
	numbers(t, pair(5), times(2, roundOf)+"work 0"+back, "0 1 0 0 0 1 5")
	numbers(t, pair(2), times(2, roundOf)+"work 0, work 1, work 0, work 1, lead"+back, "0 1 2 2 0 1 4")
	runs(t, pair(1), saves+", "+saves+back+", work 0, lead",
		"{1 1 3 2 0 1 [{0 -1} {0 -1}] [{0 0 0 []} {0 0 1 []} {0 1 0 [1]} {0 1 1 [0]} {1 2 0 [0]}]}")
}

// P16.5, P16.7: a crash between what is written and what is sealed, of one worker and of all, with as many bytes as may be kept:
// all go back to what was saved ahead of it, and save again.
func TestCrashWhileSaving(t *testing.T) {
	saves := roundOf + ", work 0, work 1, work 0, work 1, lead, "
	ends := roundOf + ", work 0, work 1, work 0, work 1, lead"
	for _, far := range []string{"", "work 0", "work 1", "work 0, work 1", "work 0, work 0", "work 0, work 0, work 1", "work 1, work 1, work 0", "work 0, work 1, work 0, work 1"} {
		for _, keep := range []string{"0", "1", "8", "1000000"} {
			for _, who := range []string{"crash 0 " + keep, "crash 1 " + keep, "crash 0 " + keep + ", crash 1 " + keep} {
				back := far + ", " + who + ", start 0, start 1, lead"
				numbers(t, pair(1), roundOf+", "+back, "0 1 0 0 0 1 2")
				numbers(t, pair(1), roundOf+", "+back+", "+ends, "0 1 1 1 0 1 4")
				numbers(t, pair(1), saves+roundOf+", "+back, "0 1 1 1 0 1 4")
				runs(t, pair(1), saves+roundOf+", "+back+", work 0, work 1",
					"{0 1 1 1 0 1 [] [{0 0 0 []} {0 0 1 []} {0 1 0 [1]} {0 1 1 [0]} {1 1 0 [1]} {1 1 1 [0]}]}")
				numbers(t, pair(1), saves+roundOf+", "+back+", "+ends, "0 1 2 2 0 1 6")
				runs(t, pair(1), saves+roundOf+", "+back+", "+ends+", "+who+", start 0, start 1, lead, work 0, lead",
					"{1 2 3 2 0 1 [{0 -1} {0 -1}] [{0 0 0 []} {0 0 1 []} {0 1 0 [1]} {0 1 1 [0]} {1 1 0 [1]} {1 1 1 [0]} {2 2 0 [0]}]}")
			}
		}
	}
}

// P16.6: without vertices it is done at once, and moves do nothing.
func TestNoVertices(t *testing.T) {
	for _, kind := range []int{api.Weak, api.Strong} {
		for _, workers := range []int{1, 2, api.MaxWorkers} {
			x := taskOf(jobOf(kind, api.Graph{}), workers)
			x.Every = 1
			want := "{1 0 0 0 0 0 [] []}"
			runs(t, x, "", want)
			runs(t, x, "work 0, all, lead, crash 0 0, start 0, lead, carry 0, double 1, lose 2", want)
			limit(t, x, 24)
		}
	}
}

// P16.6: one vertex, each kind, with edges to itself.
func TestOneVertex(t *testing.T) {
	for _, workers := range []int{1, 2, api.MaxWorkers} {
		runs(t, taskOf(jobOf(api.Dist, graphOf(1)), workers), "work 0, lead", "{1 0 1 0 0 0 [{0 -1}] [{0 0 0 []}]}")
		runs(t, taskOf(jobOf(api.Weak, graphOf(1)), workers), "work 0, lead", "{1 0 1 0 0 0 [{0 -1}] [{0 0 0 []}]}")
		runs(t, taskOf(jobOf(api.Strong, graphOf(1)), workers), "work 0, lead, work 0, lead", "{1 0 2 0 0 0 [{0 0}] [{0 0 0 []} {0 1 0 []}]}")
		// An edge to itself is said along once, or with both ways twice.
		loop := graphOf(1, edge(0, 0, 3))
		runs(t, taskOf(jobOf(api.Dist, loop), workers), "work 0, lead, work 0, lead", "{1 0 2 0 0 1 [{0 -1}] [{0 0 0 []} {0 1 0 [3]}]}")
		runs(t, taskOf(jobOf(api.Weak, loop), workers), "work 0, lead, work 0, lead", "{1 0 2 0 0 1 [{0 -1}] [{0 0 0 []} {0 1 0 [0 0]}]}")
		runs(t, taskOf(jobOf(api.Strong, loop), workers), times(4, "work 0, lead"), "{1 0 4 0 0 1 [{0 0}] [{0 0 0 []} {0 1 0 [0]} {0 2 0 []} {0 3 0 [0]}]}")
	}
}

// P16.6: all phases of Strong, behind which vertices have no label yet.
func TestStrong(t *testing.T) {
	// 0 to 1, 1 and 2 a ring: 0 is by itself, and colours all.
	x := taskOf(jobOf(api.Strong, graphOf(3, edge(0, 1, 0), edge(1, 2, 0), edge(2, 1, 0))), 1)
	o, e := Run(x, fairRounds(x, 60))
	s, e2 := rounds.Run(x.Job)
	if e != api.OK || e2 != api.OK || o.Status != api.Done || o.Step != s.Step || !slices.Equal(o.Values, s.Values) {
		t.Errorf("Run %s = %s %d, want %s %d", tell(x), tell(o), e, tell(s), e2)
	}
	if want := []api.Value{{A: 0, Label: 0}, {A: 1, Label: 1}, {A: 1, Label: 1}}; !slices.Equal(o.Values, want) {
		t.Errorf("Run %s = %s, want %v", tell(x), tell(o), want)
	}
	// It goes back to the beginning of a phase, in which all wake, too.
	for every := 1; every <= s.Step; every++ {
		for workers := 1; workers <= 3; workers++ {
			x.Every, x.Workers = every, workers
			for n := range 40 {
				l := slices.Concat(fairRounds(x, n), moves("crash 0 0, start 0"))
				asModel(t, x, append(l, fairRounds(x, 80)...), 1<<30)
			}
		}
	}
}

// P16.6, P16.7: a distance of MaxDist is told, one above it is Over, in the round in which it is said; there are no Values then.
func TestOver(t *testing.T) {
	for _, workers := range []int{1, 2, 5, api.MaxWorkers} {
		far := taskOf(jobOf(api.Dist, chain(5, api.MaxWeight)), workers)
		if o, e := Run(far, fairRounds(far, 60)); e != api.OK || o.Status != api.Done || o.Values[4] != (api.Value{A: api.MaxDist, Label: api.None}) {
			t.Errorf("Run %s = %s %d", tell(far), tell(o), e)
		}
		over := taskOf(jobOf(api.Dist, chain(6, api.MaxWeight)), workers)
		o, e := Run(over, fairRounds(over, 60))
		if e != api.OK || o.Status != api.Over || o.Step != 4 || o.Saved != 0 || len(o.Values) != 0 {
			t.Errorf("Run %s = %s %d", tell(over), tell(o), e)
		}
		if last := o.Handed[len(o.Handed)-1]; last.Vertex != 4 || last.Step != 4 || !slices.Equal(last.Mail, []int{api.MaxDist}) {
			t.Errorf("Run %s = %s: the last waking", tell(over), tell(o))
		}
		more := slices.Concat(fairRounds(over, 60), moves("lead, work 0, crash 0 0, start 0, lead, work 0, all"), fairRounds(over, 3))
		if got, e := Run(over, more); e != api.OK || !same(got, o) {
			t.Errorf("Run %s behind its end = %s %d, want %s", tell(over), tell(got), e, tell(o))
		}
		// At once, not when the round is over, and by the weight of one edge more.
		near := taskOf(jobOf(api.Dist, chain(5, api.MaxWeight)), workers)
		near.Job.Graph.Edges = append(near.Job.Graph.Edges, edge(4, 0, 1))
		if o, e := Run(near, fairRounds(near, 60)); e != api.OK || o.Status != api.Over || o.Step != 4 {
			t.Errorf("Run %s = %s %d", tell(near), tell(o), e)
		}
		limit(t, over, (5+2)*(6+5+12))
		limit(t, near, (5+2)*(5+5+12))
		limit(t, far, (5+2)*(5+4+12))
	}
	// Step is that of a round that was saved ahead of, in an epoch that is not the first one.
	x := taskOf(jobOf(api.Dist, chain(6, api.MaxWeight)), 1)
	x.Every = 2
	l := slices.Concat(fairRounds(x, 13), moves("crash 0 0, start 0, lead"), fairRounds(x, 40))
	o, e := Run(x, l)
	if e != api.OK || o.Status != api.Over || o.Epoch != 1 || o.Step != 4 || o.Saved != 4 {
		t.Errorf("Run %s behind %s = %s %d", tell(x), tellMoves(l), tell(o), e)
	}
}

// P16.7: Most: of two pieces none is loose with the Budget 2, with 1 never any; runs of one round are not the next one's.
func TestMost(t *testing.T) {
	star := graphOf(1)
	for range 5 {
		star.Edges = append(star.Edges, edge(0, 0, 0))
	}
	for budget, want := range map[int]int{1: 0, 2: 1, 3: 2, 4: 3, 5: 4, 6: 5, 7: 5, api.MaxBudget: 5} {
		x := taskOf(jobOf(api.Dist, star), 1)
		x.Budget = budget
		numbers(t, x, "work 0", fmt.Sprint("0 0 0 0 0 ", want, " 1"))
		numbers(t, x, "work 0, lead, work 0, lead", fmt.Sprint("1 0 2 0 0 ", want, " 2"))
		runs(t, x, "work 0, lead, work 0", fmt.Sprintf("{0 0 1 0 0 %d [] [{0 0 0 []} {0 1 0 [0 0 0 0 0]}]}", want))
	}
	// At one worker: not at both together; and mail that was lost with a crash counts.
	numbers(t, pair(5), "work 0, work 1, work 0, work 1, all, crash 0 0, crash 1 0, start 0, start 1, lead", "0 1 0 0 2 1 2")
	// What lay loose is not there any more in the next epoch, nor in the next round.
	x := pair(5)
	x.Budget = 3
	numbers(t, x, times(9, "work 0, work 1, work 0, work 1, all, crash 0 0, start 0, lead"), "0 9 0 0 2 1 18")
	numbers(t, x, times(3, roundOf), "1 0 3 0 0 1 5")
}

// P16.8: mail rises, whatever the order in which it comes.
func TestHandedRises(t *testing.T) {
	// 1 to 5 say their numbers to 0, which is at the end of all edges.
	g := graphOf(6)
	for v := 5; v > 0; v-- {
		g.Edges = append(g.Edges, edge(v, 0, v))
	}
	for _, budget := range []int{1, 2, 3, 10} {
		for _, order := range []string{"carry 0, carry 0, carry 0, carry 0, carry 0", "carry 4, carry 3, carry 2, carry 1, carry 0", "carry 2, carry 3, carry 0, carry 1, carry 0"} {
			x := taskOf(jobOf(api.Weak, g), 6)
			x.Budget = budget
			sent := "work 0, work 1, work 2, work 3, work 4, work 5, work 1, work 2, work 3, work 4, work 5, "
			o, e := Run(x, moves(sent+order+", work 0, all, all, lead, work 0"))
			if last := o.Handed[len(o.Handed)-1]; e != api.OK || last.Step != 1 || last.Vertex != 0 || !slices.Equal(last.Mail, []int{1, 2, 3, 4, 5}) {
				t.Errorf("Run %s by %q = %s %d", tell(x), order, tell(o), e)
			}
		}
	}
}

// P16.9: by the words, S counted by hand.
func TestLimit(t *testing.T) {
	limit(t, pair(5), (3+2)*(2+1+12))
	limit(t, taskOf(jobOf(api.Weak, graphOf(1)), 1), (1+2)*(1+12))
	limit(t, taskOf(jobOf(api.Strong, graphOf(1)), 1), (2+2)*(1+12))
	limit(t, taskOf(jobOf(api.Dist, chain(4, 1)), 1), (4+2)*(4+3+12))
	limit(t, taskOf(jobOf(api.Weak, graphOf(api.MaxVertices)), 8), (1+2)*(api.MaxVertices+12))
	limit(t, taskOf(jobOf(api.Weak, graphOf(1, make([]api.Edge, api.MaxEdges)...)), 8), (2+2)*(1+api.MaxEdges+12))
	// Neither the workers nor how they save changes it.
	for workers := 1; workers <= api.MaxWorkers; workers++ {
		for _, every := range []int{1, 2, api.MaxStep} {
			limit(t, api.Task{Job: pair(1).Job, Workers: workers, Every: every, Budget: workers}, 75)
		}
	}
	d := die(9)
	for range 300 {
		x := d.task(9, 20)
		calls := 0
		s, e := rounds.Begin(x.Job)
		for e == api.OK && !s.Done {
			s, e = rounds.Next(x.Job, s)
			calls++
		}
		limit(t, x, (calls+2)*(x.Job.Graph.N+len(x.Job.Graph.Edges)+12))
	}
}

// No argument is changed, spare room neither, and none is kept; a call does nothing to the next one.
func TestArguments(t *testing.T) {
	d := die(10)
	for range 60 {
		x := d.task(8, 14)
		n := len(x.Job.Graph.Edges)
		room := slices.Concat(x.Job.Graph.Edges, slices.Repeat([]api.Edge{edge(-7, -8, -9)}, 5))
		l := slices.Concat(d.moves(x, 200), startAll(x), fairRounds(x, 30))
		longer := slices.Concat(l, slices.Repeat([]api.Move{{Kind: -5, At: -6, Keep: -7}}, 5))
		want, _ := Run(x, l)
		wantLimit, _ := Limit(x)
		y, kept, keptMoves := x, slices.Clone(room), slices.Clone(longer)
		y.Job.Graph.Edges = room[:n]
		got, e := Run(y, longer[:len(l)])
		gotLimit, e2 := Limit(y)
		if e != api.OK || e2 != api.OK || Check(y) != api.OK || !same(got, want) || gotLimit != wantLimit {
			t.Fatalf("Run %s = %s %d, want %s", tell(x), tell(got), e, tell(want))
		}
		if !slices.Equal(room, kept) || !slices.Equal(longer, keptMoves) {
			t.Fatalf("Run %s behind %s changed its arguments", tell(x), tellMoves(l))
		}
		for i := range room {
			room[i] = edge(-1, -2, -3)
		}
		if !same(got, want) {
			t.Fatalf("Run %s kept its arguments", tell(x))
		}
	}
}

// What is answered is new memory: no two lists of one answer, and none of two answers, share any.
func TestAnswers(t *testing.T) {
	d := die(11)
	for range 60 {
		x := d.task(8, 14)
		x.Every = 1 + d.below(3)
		l := slices.Concat(d.moves(x, 200), startAll(x), fairRounds(x, 200))
		want, _ := Run(x, l)
		got, _ := Run(x, l)
		for i := range got.Values[:cap(got.Values)] {
			got.Values[:cap(got.Values)][i] = api.Value{A: -100, Label: -100}
		}
		for i, h := range got.Handed {
			room := h.Mail[:cap(h.Mail)]
			for k := range room {
				room[k] = -i - 1
			}
		}
		for i, h := range got.Handed {
			for _, n := range h.Mail[:cap(h.Mail)] {
				if n != -i-1 {
					t.Fatalf("Run %s: what two vertices were handed shares memory", tell(x))
				}
			}
		}
		if again, _ := Run(x, l); !same(again, want) {
			t.Fatalf("Run %s = %s, then %s", tell(x), tell(want), tell(again))
		}
	}
}
