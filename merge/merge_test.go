package merge

import (
	"fmt"
	"math"
	"slices"
	"testing"

	"paceline/api"
)

// mail of numbers two by two: To and Value.
func mail(numbers ...int) []api.Mail {
	var l []api.Mail
	for i := 0; i < len(numbers); i += 2 {
		l = append(l, api.Mail{To: numbers[i], Value: numbers[i+1]})
	}
	return l
}

func lists(l ...[]api.Mail) [][]api.Mail { return l }

// many of mail, all alike.
func many(n, to, value int) []api.Mail {
	return slices.Repeat(mail(to, value), n)
}

// tell in short what was handed in or answered: lists may be long.
func tell(x any) string { return fmt.Sprintf("%.300s", fmt.Sprint(x)) }

func sorts(t *testing.T, l, want []api.Mail) {
	t.Helper()
	if got, e := Sort(l); e != api.OK || !slices.Equal(got, want) {
		t.Errorf("Sort %s = %s %d, want %s", tell(l), tell(got), e, tell(want))
	}
}

func merges(t *testing.T, l [][]api.Mail, want []api.Mail) {
	t.Helper()
	if got, e := Lists(l); e != api.OK || !slices.Equal(got, want) {
		t.Errorf("Lists %s = %s %d, want %s", tell(l), tell(got), e, tell(want))
	}
}

func leasts(t *testing.T, l, want []api.Mail) {
	t.Helper()
	if got, e := Least(l); e != api.OK || !slices.Equal(got, want) {
		t.Errorf("Least %s = %s %d, want %s", tell(l), tell(got), e, tell(want))
	}
}

// refused with that error, and no mail is answered.
func refused(t *testing.T, what string, in any, got []api.Mail, e, want api.Errno) {
	t.Helper()
	if e != want || len(got) != 0 {
		t.Errorf("%s %s = %s %d, want none, %d", what, tell(in), tell(got), e, want)
	}
}

func noSort(t *testing.T, l []api.Mail, want api.Errno) {
	t.Helper()
	got, e := Sort(l)
	refused(t, "Sort", l, got, e, want)
}

func noMerge(t *testing.T, l [][]api.Mail, want api.Errno) {
	t.Helper()
	got, e := Lists(l)
	refused(t, "Lists", l, got, e, want)
}

func noLeast(t *testing.T, l []api.Mail, want api.Errno) {
	t.Helper()
	got, e := Least(l)
	refused(t, "Least", l, got, e, want)
}

// ahead: P8.1, word by word.
func ahead(a, b api.Mail) bool {
	if a.To == b.To {
		return a.Value < b.Value
	}
	return a.To < b.To
}

// put each piece of mail where it belongs, one by one: a plain model of all that is in order.
func put(l []api.Mail) []api.Mail {
	var out []api.Mail
	for _, m := range l {
		at := len(out)
		for at > 0 && ahead(m, out[at-1]) {
			at--
		}
		out = slices.Insert(out, at, m)
	}
	return out
}

// first of each To: a plain model of what Least tells of mail in order.
func first(l []api.Mail) []api.Mail {
	var out []api.Mail
	for _, m := range l {
		if !slices.ContainsFunc(out, func(o api.Mail) bool { return o.To == m.To }) {
			out = append(out, m)
		}
	}
	return out
}

// counted: how often each piece of mail is there.
func counted(l []api.Mail) map[api.Mail]int {
	n := map[api.Mail]int{}
	for _, m := range l {
		n[m]++
	}
	return n
}

// die: numbers that look drawn, the same each time.
type die uint64

func (d *die) n(most int) int {
	*d = *d*6364136223846793005 + 1442695040888963407
	return int(uint64(*d>>33) % uint64(most))
}

// number: small, or one of the edges of 64 bits.
func (d *die) number() int {
	edges := []int{math.MinInt, math.MinInt + 1, -1 << 62, -1, 1 << 62, math.MaxInt - 1, math.MaxInt}
	if k := d.n(40); k < len(edges) {
		return edges[k]
	}
	return d.n(12) - 4
}

func (d *die) mail(most int) []api.Mail {
	var l []api.Mail
	for range d.n(most + 1) {
		l = append(l, api.Mail{To: d.number(), Value: d.number()})
	}
	return l
}

// edges: mail of any numbers, in order.
func edges() []api.Mail {
	return mail(
		math.MinInt, math.MinInt, math.MinInt, -1, math.MinInt, math.MaxInt,
		-1, math.MinInt, -1, 0, -1, math.MaxInt,
		0, math.MinInt, 0, -1, 0, 0, 0, 1, 0, math.MaxInt,
		1, -5, 1, 5,
		math.MaxInt, math.MinInt, math.MaxInt, 0, math.MaxInt, math.MaxInt)
}

// rising: so much mail in order, each piece another one.
func rising(n int) []api.Mail {
	var l []api.Mail
	for i := range n {
		l = append(l, api.Mail{To: i/3 - 700, Value: i % 3})
	}
	return l
}

// P8.1, P8.2: by To, and of the same To by Value.
func TestSort(t *testing.T) {
	sorts(t, mail(2, 1, 1, 9), mail(1, 9, 2, 1))
	sorts(t, mail(1, 9, 2, 1), mail(1, 9, 2, 1))
	sorts(t, mail(1, 9, 1, 3, 1, 5), mail(1, 3, 1, 5, 1, 9))
	sorts(t, mail(3, 0, 1, 2, 3, -1, 2, 2, 1, 1), mail(1, 1, 1, 2, 2, 2, 3, -1, 3, 0))
}

// P8.2: no mail, one piece, the same piece several times.
func TestSortLittle(t *testing.T) {
	sorts(t, nil, nil)
	sorts(t, []api.Mail{}, nil)
	sorts(t, mail(0, 0), mail(0, 0))
	sorts(t, mail(7, 7), mail(7, 7))
	sorts(t, mail(1, 2, 0, 5, 1, 2, 0, 5, 1, 2), mail(0, 5, 0, 5, 1, 2, 1, 2, 1, 2))
}

// P8.1, P8.2: any numbers, the least and the greatest among them.
func TestSortEdges(t *testing.T) {
	l := edges()
	sorts(t, l, edges())
	slices.Reverse(l)
	sorts(t, l, edges())
	for range l {
		l = append(l[1:], l[0])
		sorts(t, l, edges())
	}
}

// P8.2: just MaxMail, and more.
func TestSortMost(t *testing.T) {
	l := rising(api.MaxMail)
	sorts(t, l, rising(api.MaxMail))
	slices.Reverse(l)
	sorts(t, l, rising(api.MaxMail))
	sorts(t, many(api.MaxMail, 4, 4), many(api.MaxMail, 4, 4))
	noSort(t, append(l, l[0]), api.ErrSize)
	noSort(t, rising(api.MaxMail+1), api.ErrSize)
	noSort(t, make([]api.Mail, api.MaxMail+1), api.ErrSize)
	noSort(t, make([]api.Mail, 3*api.MaxMail), api.ErrSize)
}

// P8.3: all mail of some lists, in order.
func TestLists(t *testing.T) {
	merges(t, lists(mail(1, 1, 3, 3), mail(2, 2, 4, 4)), mail(1, 1, 2, 2, 3, 3, 4, 4))
	merges(t, lists(mail(3, 3, 4, 4), mail(1, 1, 2, 2)), mail(1, 1, 2, 2, 3, 3, 4, 4))
	merges(t, lists(mail(1, 2, 1, 5), mail(1, 1, 1, 3), mail(1, 4)), mail(1, 1, 1, 2, 1, 3, 1, 4, 1, 5))
	merges(t, lists(mail(5, -1), mail(1, 9, 5, 0, 6, 2), mail(0, 0), mail(5, -2, 5, -1)),
		mail(0, 0, 1, 9, 5, -2, 5, -1, 5, -1, 5, 0, 6, 2))
}

// P8.3: no lists, lists without mail, one list.
func TestListsLittle(t *testing.T) {
	merges(t, nil, nil)
	merges(t, [][]api.Mail{}, nil)
	merges(t, lists(nil), nil)
	merges(t, lists(nil, []api.Mail{}, nil), nil)
	merges(t, lists(mail(1, 2)), mail(1, 2))
	merges(t, lists(mail(1, 2, 1, 2, 4, 0)), mail(1, 2, 1, 2, 4, 0))
	merges(t, lists(nil, mail(1, 2, 4, 0), []api.Mail{}, mail(3, 3), nil), mail(1, 2, 3, 3, 4, 0))
	merges(t, lists(edges()), edges())
}

// P8.3: the same piece of mail several times, in one list and in several.
func TestListsAlike(t *testing.T) {
	merges(t, lists(mail(1, 2), mail(1, 2)), mail(1, 2, 1, 2))
	merges(t, lists(mail(1, 2, 1, 2), mail(0, 0, 1, 2), mail(1, 2, 1, 3)), mail(0, 0, 1, 2, 1, 2, 1, 2, 1, 2, 1, 3))
	same := mail(0, 0, 2, 1, 2, 2)
	merges(t, lists(same, same, same), mail(0, 0, 0, 0, 0, 0, 2, 1, 2, 1, 2, 1, 2, 2, 2, 2, 2, 2))
}

// P8.1, P8.3: any numbers, dealt out to lists in several ways.
func TestListsEdges(t *testing.T) {
	for n := 1; n <= 17; n++ {
		l := make([][]api.Mail, n)
		for i, m := range edges() {
			l[i%n] = append(l[i%n], m)
		}
		merges(t, l, edges())
		slices.Reverse(l)
		merges(t, l, edges())
	}
}

// P8.3: just MaxMail of mail in all, just MaxMail lists, and both at once.
func TestListsMost(t *testing.T) {
	all := rising(api.MaxMail)
	merges(t, lists(all), all)
	merges(t, lists(all[2500:], nil, all[:2500]), all)
	merges(t, lists(all[1:], all[:1]), all)
	var single [][]api.Mail
	for _, m := range all {
		single = append(single, []api.Mail{m})
	}
	merges(t, single, all)
	slices.Reverse(single)
	merges(t, single, all)
	merges(t, make([][]api.Mail, api.MaxMail), nil)
	l := make([][]api.Mail, api.MaxMail)
	l[0], l[1], l[api.MaxMail-1] = all[4000:], all[:17], all[17:4000]
	merges(t, l, all)
}

// P8.3: more than MaxMail of mail in one list and in all together, more than MaxMail lists with and without mail.
func TestListsSize(t *testing.T) {
	more := rising(api.MaxMail + 1)
	noMerge(t, lists(more), api.ErrSize)
	noMerge(t, lists(nil, more), api.ErrSize)
	noMerge(t, lists(more[:1], more[1:]), api.ErrSize)
	noMerge(t, lists(more[:api.MaxMail], more[api.MaxMail:]), api.ErrSize)
	noMerge(t, lists(more[:1666], more[1666:3333], nil, more[3333:]), api.ErrSize)
	noMerge(t, lists(more, more, more), api.ErrSize)
	noMerge(t, make([][]api.Mail, api.MaxMail+1), api.ErrSize)
	l := make([][]api.Mail, api.MaxMail+1)
	l[api.MaxMail] = mail(1, 1)
	noMerge(t, l, api.ErrSize)
	for i := range l {
		l[i] = more[i : i+1]
	}
	noMerge(t, l, api.ErrSize)
}

// P8.3: a list that is not in order, at each place.
func TestListsForm(t *testing.T) {
	fine := mail(0, 5, 1, 5, 1, 6, 8, -1)
	for _, bad := range [][]api.Mail{
		mail(2, 0, 1, 0), mail(2, 0, 1, 9), mail(1, 3, 1, 2), mail(0, 0, 1, 3, 1, 2),
		mail(0, 0, 5, 0, 4, 9), mail(2, 0, 1, 0, 3, 0), mail(0, 0, 0, -1), mail(0, 0, -1, 0),
		mail(math.MaxInt, 0, math.MinInt, 0), mail(1, math.MaxInt, 1, math.MinInt),
	} {
		noMerge(t, lists(bad), api.ErrForm)
		noMerge(t, lists(bad, fine), api.ErrForm)
		noMerge(t, lists(fine, bad), api.ErrForm)
		noMerge(t, lists(nil, fine, bad, fine, nil), api.ErrForm)
	}
	last := append(rising(api.MaxMail-1), api.Mail{To: math.MinInt})
	noMerge(t, lists(last), api.ErrForm)
	noMerge(t, lists(last[:1], nil, last[1:]), api.ErrForm)
}

// P8.3: too many is told ahead of what is not in order.
func TestListsBothWrong(t *testing.T) {
	bad := mail(2, 0, 1, 0)
	noMerge(t, lists(bad, rising(api.MaxMail-1)), api.ErrSize)
	noMerge(t, lists(rising(api.MaxMail-1), bad), api.ErrSize)
	noMerge(t, lists(bad, rising(api.MaxMail-2)), api.ErrForm)
	l := make([][]api.Mail, api.MaxMail+1)
	l[0] = bad
	noMerge(t, l, api.ErrSize)
	noMerge(t, l[:api.MaxMail], api.ErrForm)
	noMerge(t, lists(append(rising(api.MaxMail), api.Mail{To: math.MinInt})), api.ErrSize)
}

// P8.4: of each To the one ahead of the others.
func TestLeast(t *testing.T) {
	leasts(t, mail(1, 2, 1, 3), mail(1, 2))
	leasts(t, mail(1, 2, 2, 1), mail(1, 2, 2, 1))
	leasts(t, mail(0, 4, 1, 2, 1, 3, 1, 9, 3, -7, 3, 7, 4, 0), mail(0, 4, 1, 2, 3, -7, 4, 0))
}

// P8.4: no mail, one piece, the same piece several times, To 0 and Value 0.
func TestLeastLittle(t *testing.T) {
	leasts(t, nil, nil)
	leasts(t, []api.Mail{}, nil)
	leasts(t, mail(0, 0), mail(0, 0))
	leasts(t, mail(-1, 5), mail(-1, 5))
	leasts(t, mail(0, 0, 0, 0, 0, 1), mail(0, 0))
	leasts(t, mail(1, 2, 1, 2, 1, 2, 6, 2, 6, 2), mail(1, 2, 6, 2))
}

// P8.4: any numbers, the least and the greatest among them.
func TestLeastEdges(t *testing.T) {
	leasts(t, edges(), mail(
		math.MinInt, math.MinInt, -1, math.MinInt, 0, math.MinInt, 1, -5, math.MaxInt, math.MinInt))
	leasts(t, mail(math.MinInt, math.MaxInt, math.MaxInt, math.MaxInt), mail(math.MinInt, math.MaxInt, math.MaxInt, math.MaxInt))
}

// P8.4: just MaxMail, of one To and of as many, and more.
func TestLeastMost(t *testing.T) {
	leasts(t, many(api.MaxMail, 4, 4), mail(4, 4))
	var each, pairs []api.Mail
	for i := range api.MaxMail {
		each = append(each, api.Mail{To: i, Value: -i})
		pairs = append(pairs, api.Mail{To: i / 2, Value: i})
	}
	leasts(t, each, each)
	got, e := Least(pairs)
	if e != api.OK || len(got) != api.MaxMail/2 {
		t.Fatalf("Least of pairs: %d of mail, %d", len(got), e)
	}
	for i, m := range got {
		if m != pairs[2*i] {
			t.Fatalf("Least of pairs: %v at %d, want %v", m, i, pairs[2*i])
		}
	}
	noLeast(t, many(api.MaxMail+1, 4, 4), api.ErrSize)
	noLeast(t, rising(api.MaxMail+1), api.ErrSize)
	noLeast(t, make([]api.Mail, 2*api.MaxMail), api.ErrSize)
}

// P8.4: mail that is not in order; too much of it is told first.
func TestLeastRefused(t *testing.T) {
	for _, bad := range [][]api.Mail{
		mail(2, 0, 1, 0), mail(2, 0, 1, 9), mail(1, 3, 1, 2), mail(1, 1, 1, 3, 1, 2),
		mail(0, 0, 5, 0, 4, 9), mail(1, 0, 2, 0, 1, 0), mail(0, 0, 0, -1),
		mail(math.MaxInt, 0, math.MinInt, 0), mail(1, math.MaxInt, 1, math.MinInt),
	} {
		noLeast(t, bad, api.ErrForm)
	}
	noLeast(t, append(rising(api.MaxMail-1), api.Mail{To: math.MinInt}), api.ErrForm)
	noLeast(t, append(rising(api.MaxMail), api.Mail{To: math.MinInt}), api.ErrSize)
}

// P8.2, P8.3, P8.4: drawn mail, held against the plain models.
func TestDrawn(t *testing.T) {
	d := die(8)
	for range 3000 {
		var pieces [][]api.Mail
		var all []api.Mail
		for range d.n(8) {
			l := put(d.mail(9))
			pieces, all = append(pieces, l), append(all, l...)
		}
		want := put(all)
		sorts(t, all, want)
		merges(t, pieces, want)
		leasts(t, want, first(want))
		if len(all) > 0 && !slices.Equal(all, want) {
			noLeast(t, all, api.ErrForm)
			noMerge(t, append(pieces, all), api.ErrForm)
		}
	}
}

// P8.2, P8.3: no mail is lost or doubled; what is put in order in pieces and merged is what is put in order at once.
func TestPieces(t *testing.T) {
	d := die(88)
	for _, n := range []int{1, 2, 3, 10, 100, 999, 2500, api.MaxMail} {
		var all []api.Mail
		for range n {
			all = append(all, api.Mail{To: d.number(), Value: d.number()})
		}
		once, e := Sort(all)
		if e != api.OK || fmt.Sprint(counted(once)) != fmt.Sprint(counted(all)) {
			t.Fatalf("Sort of %d: other mail, or %d", n, e)
		}
		for i := 1; i < len(once); i++ {
			if ahead(once[i], once[i-1]) {
				t.Fatalf("Sort of %d: %v behind %v", n, once[i], once[i-1])
			}
		}
		for _, size := range []int{1, 2, 7, n/2 + 1, n} {
			var pieces [][]api.Mail
			for piece := range slices.Chunk(all, size) {
				l, e := Sort(piece)
				if e != api.OK {
					t.Fatalf("Sort of a piece: %d", e)
				}
				pieces = append(pieces, l)
			}
			merges(t, pieces, once)
		}
	}
}

// P8.4: the least is what counts for whoever takes the least alone: it is the same ahead of merging and behind it.
func TestLeastOfLeast(t *testing.T) {
	d := die(888)
	for range 500 {
		var pieces, lowest [][]api.Mail
		for range 1 + d.n(5) {
			l := put(d.mail(12))
			low, e := Least(l)
			if e != api.OK {
				t.Fatalf("Least: %d", e)
			}
			pieces, lowest = append(pieces, l), append(lowest, low)
		}
		all, e := Lists(pieces)
		some, f := Lists(lowest)
		if e != api.OK || f != api.OK {
			t.Fatalf("Lists: %d %d", e, f)
		}
		leasts(t, some, first(all))
		leasts(t, first(all), first(all))
	}
}

// kept: a list within a longer one, to see whether it or what lies behind it is changed.
func kept(l []api.Mail) (inside, whole []api.Mail) {
	whole = append(slices.Clone(l), many(8, -77, -77)...)
	return whole[:len(l)], whole
}

// spoil a list with its spare room: nothing else may change by it.
func spoil(l []api.Mail) {
	l = l[:cap(l)]
	for i := range l {
		l[i] = api.Mail{To: -99, Value: -99}
	}
}

// P8.2, P8.4: what is handed in stays, its spare room too, and the answer is new memory.
func TestOwnMemory(t *testing.T) {
	calls := []func([]api.Mail) ([]api.Mail, api.Errno){Sort, Least, func(l []api.Mail) ([]api.Mail, api.Errno) {
		return Lists([][]api.Mail{l})
	}}
	for i, call := range calls {
		for _, l := range [][]api.Mail{{}, mail(1, 1), mail(1, 1, 1, 2, 2, 0), mail(5, 1, 4, 1, 4, 0), rising(300)} {
			in, whole := kept(l)
			before := slices.Clone(whole)
			got, e := call(in)
			again, f := call(in)
			if !slices.Equal(whole, before) {
				t.Fatalf("call %d of %s changed its argument: %s", i, tell(l), tell(whole))
			}
			if e != f || !slices.Equal(got, again) {
				t.Fatalf("call %d of %s: %s, then %s", i, tell(l), tell(got), tell(again))
			}
			spoil(got)
			last, _ := call(in)
			if !slices.Equal(whole, before) || !slices.Equal(again, last) {
				t.Fatalf("call %d of %s: the answer shares memory", i, tell(l))
			}
		}
	}
}

// P8.3: lists that are handed in stay, each with its spare room, and the list of them too.
func TestListsOwnMemory(t *testing.T) {
	for _, pieces := range [][][]api.Mail{
		{mail(1, 1, 3, 3), {}, mail(2, 2)},
		{rising(40), rising(30), rising(1)},
		{{}, mail(4, 4), {}},
		{mail(1, 1), mail(2, 2, 1, 1)},
	} {
		var in, wholes, before [][]api.Mail
		for _, l := range pieces {
			inside, whole := kept(l)
			in, wholes, before = append(in, inside), append(wholes, whole), append(before, slices.Clone(whole))
		}
		in = append(in, mail(7, 7), mail(8, 8))
		outer := slices.Clone(in)
		got, _ := Lists(in[:len(pieces)])
		again, _ := Lists(in[:len(pieces)])
		spoil(got)
		last, _ := Lists(in[:len(pieces)])
		for i := range wholes {
			if !slices.Equal(wholes[i], before[i]) {
				t.Fatalf("Lists %s: list %d was changed", tell(pieces), i)
			}
		}
		for i := range outer {
			if !slices.Equal(in[i], outer[i]) || len(in[i]) > 0 && &in[i][0] != &outer[i][0] {
				t.Fatalf("Lists %s: the list of lists was changed", tell(pieces))
			}
		}
		if !slices.Equal(again, last) {
			t.Fatalf("Lists %s: two answers share memory", tell(pieces))
		}
	}
}
