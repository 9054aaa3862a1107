package prog

import (
	"math"
	"slices"
	"testing"

	"paceline/api"
)

const top = api.MaxVertices - 1 // the greatest vertex

// call of Wake: what it is given.
type call struct {
	kind, v, source int
	old             api.Value
	phase           int
	fresh           bool
	mail            []int
}

func (c call) wake() (api.Value, bool, api.Errno) {
	return Wake(c.kind, c.v, c.source, c.old, c.phase, c.fresh, c.mail)
}

func val(a, label int) api.Value { return api.Value{A: a, Label: label} }

func wakes(t *testing.T, c call, want api.Value, says bool) {
	t.Helper()
	if got, s, e := c.wake(); e != api.OK || got != want || s != says {
		t.Errorf("Wake %+v = %v %t %d, want %v %t", c, got, s, e, want, says)
	}
}

func noWake(t *testing.T, c call, want api.Errno) {
	t.Helper()
	if got, s, e := c.wake(); e != want || got != (api.Value{}) || s {
		t.Errorf("Wake %+v = %v %t %d, want none, %d", c, got, s, e, want)
	}
}

func says(t *testing.T, kind int, x api.Value, phase, weight, want int) {
	t.Helper()
	if got, e := Say(kind, x, phase, weight); e != api.OK || got != want {
		t.Errorf("Say %d %v %d %d = %d %d, want %d", kind, x, phase, weight, got, e, want)
	}
}

func noSay(t *testing.T, kind int, x api.Value, phase, weight int, want api.Errno) {
	t.Helper()
	if got, e := Say(kind, x, phase, weight); e != want || got != 0 {
		t.Errorf("Say %d %v %d %d = %d %d, want 0, %d", kind, x, phase, weight, got, e, want)
	}
}

// form: a kind and a phase that it has, and the kind's greatest number.
type form struct{ kind, phase, most int }

func forms() []form {
	return []form{
		{api.Dist, api.Forward, api.MaxDist}, {api.Weak, api.Forward, top},
		{api.Strong, api.Forward, top}, {api.Strong, api.Back, top},
	}
}

// plain: a call of the form that is taken.
func (f form) plain(fresh bool) call {
	return call{kind: f.kind, v: 4, old: val(4, api.None), phase: f.phase, fresh: fresh, mail: []int{5}}
}

// noForms: kinds that are not, and phases that a kind has not.
func noForms() []form {
	l := []form{{kind: api.Dist, phase: api.Back}, {kind: api.Weak, phase: api.Back}}
	for _, kind := range []int{0, -1, -2, -3, 4, 5, 257, 1 << 32, 1<<32 + 1, math.MinInt, math.MaxInt} {
		for _, phase := range []int{api.Forward, api.Back, -1, 2, math.MinInt, math.MaxInt} {
			l = append(l, form{kind: kind, phase: phase})
		}
	}
	for kind := api.Dist; kind <= api.Strong; kind++ {
		for _, phase := range []int{-1, -2, 2, 3, 256, 1 << 32, 1<<32 + 1, math.MinInt, math.MaxInt} {
			l = append(l, form{kind: kind, phase: phase})
		}
	}
	return l
}

// outside: numbers that are not from least to most.
func outside(least, most int) []int {
	return []int{least - 1, least - 2, -1 << 32, math.MinInt, most + 1, most + 2, 1<<62 + 1, math.MaxInt}
}

// P11.1: no such kind or phase: ErrForm, whatever else is right or wrong.
func TestForm(t *testing.T) {
	for _, f := range noForms() {
		for _, fresh := range []bool{false, true} {
			for _, v := range []int{0, 4, top, -1, top + 1} {
				for _, x := range []api.Value{val(4, api.None), val(0, 0), val(-2, 0), val(0, -2), val(api.MaxDist+1, 0), {}} {
					for _, mail := range [][]int{nil, {}, {3}, {-1}, {3, api.MaxDist + 1}} {
						noWake(t, call{f.kind, v, v, x, f.phase, fresh, mail}, api.ErrForm)
					}
				}
			}
		}
		for _, x := range []api.Value{val(4, api.None), val(api.None, api.None), val(-2, 0), val(api.MaxDist, top), val(0, -2)} {
			for _, weight := range []int{0, 1, api.MaxWeight, -1, api.MaxWeight + 1} {
				noSay(t, f.kind, x, f.phase, weight, api.ErrForm)
			}
		}
		if out, in, e := Ways(f.kind, f.phase); out || in || e != api.ErrForm {
			t.Errorf("Ways %d %d = %t %t %d, want none, ErrForm", f.kind, f.phase, out, in, e)
		}
	}
}

// P11.1: v.
func TestVertex(t *testing.T) {
	for _, f := range forms() {
		for _, fresh := range []bool{false, true} {
			for _, label := range []int{api.None, 3} {
				c := f.plain(fresh)
				c.old.Label = label
				for _, c.v = range outside(0, top) {
					c.source = c.v
					noWake(t, c, api.ErrRange)
				}
				for _, c.v = range []int{0, 1, top - 1, top} {
					if _, _, e := c.wake(); e != api.OK {
						t.Errorf("Wake %+v: %d", c, e)
					}
				}
			}
		}
	}
}

// P11.1: old's A and Label.
func TestOld(t *testing.T) {
	for _, f := range forms() {
		for _, fresh := range []bool{false, true} {
			c := f.plain(fresh)
			for _, a := range outside(api.None, f.most) {
				for _, label := range []int{api.None, 0, top, top + 1} {
					c.old = val(a, label)
					noWake(t, c, api.ErrRange)
				}
			}
			for _, label := range outside(api.None, top) {
				for _, a := range []int{api.None, 0, 4, f.most, f.most + 1} {
					c.old = val(a, label)
					noWake(t, c, api.ErrRange)
				}
			}
			for _, a := range []int{api.None, 0, 1, f.most - 1, f.most} {
				for _, label := range []int{api.None, 0, 1, top - 1, top} {
					c.old = val(a, label)
					if _, _, e := c.wake(); e != api.OK {
						t.Errorf("Wake %+v: %d", c, e)
					}
				}
			}
		}
	}
}

// P11.1: mail, at any place of the list, looked at or not.
func TestMail(t *testing.T) {
	for _, f := range forms() {
		for _, fresh := range []bool{false, true} {
			for _, old := range []api.Value{val(4, api.None), val(api.None, api.None), val(4, 4), val(0, 0)} {
				c := f.plain(fresh)
				c.old = old
				for _, m := range outside(0, f.most) {
					for _, c.mail = range [][]int{{m}, {m, 0}, {0, m}, {4, m, f.most}, {0, 0, 0, 0, m}, {m, m}} {
						noWake(t, c, api.ErrRange)
					}
				}
				for _, c.mail = range [][]int{nil, {}, {0}, {f.most}, {f.most, 0, f.most - 1, 1}} {
					if _, _, e := c.wake(); e != api.OK {
						t.Errorf("Wake %+v: %d", c, e)
					}
				}
			}
		}
	}
}

// P11.1: what is a distance is no vertex: the bounds of the kinds differ.
func TestGreatest(t *testing.T) {
	for _, n := range []int{top + 1, 1 << 32, api.MaxWeight + 1, api.MaxDist - 1, api.MaxDist} {
		wakes(t, call{kind: api.Dist, v: 4, source: 9, old: val(n, api.None), mail: []int{n}}, val(n, api.None), false)
		for _, f := range forms()[1:] {
			noWake(t, call{kind: f.kind, v: 4, phase: f.phase, old: val(n, api.None)}, api.ErrRange)
			noWake(t, call{kind: f.kind, v: 4, phase: f.phase, old: val(4, api.None), mail: []int{n}}, api.ErrRange)
			noSay(t, f.kind, val(n, api.None), f.phase, 0, api.ErrRange)
		}
	}
}

// olds: values that the form takes, the edges among them.
func (f form) olds() []api.Value {
	var l []api.Value
	for _, a := range []int{api.None, 0, 1, 4, 7, top - 1, top, f.most - 1, f.most} {
		for _, label := range []int{api.None, 0, 4, top} {
			l = append(l, val(a, label))
		}
	}
	return l
}

// P11.2: Dist, fresh: the source alone says so, whatever number it is, and whatever was.
func TestDistFresh(t *testing.T) {
	f := forms()[0]
	for _, old := range f.olds() {
		for _, mail := range [][]int{nil, {0}, {3, 9}, {api.MaxDist}} {
			for _, v := range []int{0, 1, 4, top} {
				c := call{kind: api.Dist, v: v, source: v, old: old, fresh: true, mail: mail}
				wakes(t, c, val(0, api.None), true)
				for _, c.source = range []int{v - 1, v + 1, -1, -v - 1, top + 1, v + 1<<32, math.MinInt, math.MaxInt} {
					wakes(t, c, val(api.None, api.None), false)
				}
			}
		}
	}
}

// P11.2: Weak, fresh: itself, whatever was.
func TestWeakFresh(t *testing.T) {
	f := forms()[1]
	for _, old := range f.olds() {
		for _, mail := range [][]int{nil, {0}, {3, 9}, {top}} {
			for _, v := range []int{0, 1, 4, top} {
				for _, source := range []int{v, 0, -1, math.MaxInt} {
					wakes(t, call{kind: api.Weak, v: v, source: source, old: old, fresh: true, mail: mail}, val(v, api.None), true)
				}
			}
		}
	}
}

// P11.2, P11.3: written by hand: the least of the mail, if it is below A.
func TestHeard(t *testing.T) {
	for _, f := range forms()[:3] {
		for _, c := range []struct {
			a    int
			mail []int
			want int
		}{
			{4, nil, 4},
			{4, []int{}, 4},
			{4, []int{4}, 4},
			{4, []int{5}, 4},
			{4, []int{3}, 3},
			{4, []int{2, 3}, 2},
			{4, []int{3, 2}, 2},
			{4, []int{9, 3, 7, 1, 8}, 1},
			{4, []int{4, 5, 4}, 4},
			{4, []int{5, 3, 5}, 3},
			{4, []int{3, 3}, 3},
			{1, []int{0}, 0},
			{0, []int{0}, 0},
			{0, []int{1, 0, f.most}, 0},
			{f.most, []int{f.most}, f.most},
			{f.most, []int{f.most - 1}, f.most - 1},
			{f.most, []int{f.most, 0}, 0},
			{api.None, nil, api.None},
			{api.None, []int{0}, 0},
			{api.None, []int{f.most}, f.most},
			{api.None, []int{7, 5, 6}, 5},
			{api.None, []int{5, 7, 6}, 5},
		} {
			for _, v := range []int{0, 4, 5, top} {
				for _, source := range []int{v, 4, -1, math.MinInt} {
					wakes(t, call{f.kind, v, source, val(c.a, api.None), f.phase, false, c.mail}, val(c.want, api.None), c.a != c.want)
				}
			}
			if f.kind != api.Strong {
				for _, label := range []int{0, 4, top} {
					wakes(t, call{f.kind, 4, 4, val(c.a, label), f.phase, false, c.mail}, val(c.want, label), c.a != c.want)
				}
			}
		}
	}
}

// P11.3: a vertex with a Label: nothing more, in both phases.
func TestStrongLabelled(t *testing.T) {
	for _, phase := range []int{api.Forward, api.Back} {
		for _, fresh := range []bool{false, true} {
			for _, label := range []int{0, 1, 4, top - 1, top} {
				for _, a := range []int{api.None, 0, 1, 4, top} {
					for _, mail := range [][]int{nil, {0}, {label}, {max(a, 0)}, {max(a-1, 0), max(a, 0)}, {min(a+1, top)}, {top, 0, 4}} {
						for _, v := range []int{0, 4, top, label} {
							wakes(t, call{api.Strong, v, 0, val(a, label), phase, fresh, mail}, val(a, label), false)
						}
					}
				}
			}
		}
	}
}

// P11.3: Forward, without a Label, fresh: as Weak's.
func TestStrongForwardFresh(t *testing.T) {
	for _, a := range []int{api.None, 0, 1, 4, top} {
		for _, mail := range [][]int{nil, {0}, {3, 9}, {max(a, 0)}} {
			for _, v := range []int{0, 1, 4, top} {
				wakes(t, call{api.Strong, v, 0, val(a, api.None), api.Forward, true, mail}, val(v, api.None), true)
			}
		}
	}
}

// P11.4: Back, fresh: it is its own colour, or not.
func TestBackFresh(t *testing.T) {
	for _, v := range []int{0, 1, 4, top} {
		for _, source := range []int{v, 0, -1, math.MaxInt} {
			for _, mail := range [][]int{nil, {0}, {v}, {4, 1, top}} {
				wakes(t, call{api.Strong, v, source, val(v, api.None), api.Back, true, mail}, val(v, v), true)
				for _, a := range []int{api.None, 0, 1, 3, 5, top - 1, top} {
					if a != v {
						wakes(t, call{api.Strong, v, source, val(a, api.None), api.Back, true, mail}, val(a, api.None), false)
					}
				}
			}
		}
	}
}

// P11.4: Back, not fresh: some of the mail is its colour, or none is.
func TestBackHeard(t *testing.T) {
	for _, c := range []struct {
		a    int
		mail []int
		so   bool
	}{
		{4, nil, false},
		{4, []int{}, false},
		{4, []int{4}, true},
		{4, []int{3}, false},
		{4, []int{5}, false},
		{4, []int{3, 4}, true},
		{4, []int{4, 3}, true},
		{4, []int{9, 0, 4, 7}, true},
		{4, []int{9, 0, 3, 5}, false},
		{4, []int{4, 4}, true},
		{0, []int{0}, true},
		{0, []int{1}, false},
		{0, []int{top, 1, 0}, true},
		{top, []int{top}, true},
		{top, []int{top - 1, 0}, false},
		{api.None, nil, false},
		{api.None, []int{0}, false},
		{api.None, []int{0, 1, 4, top}, false},
	} {
		want := val(c.a, api.None)
		if c.so {
			want.Label = c.a
		}
		for _, v := range []int{0, 4, 5, top} {
			for _, source := range []int{v, 0, -1, math.MaxInt} {
				wakes(t, call{api.Strong, v, source, val(c.a, api.None), api.Back, false, c.mail}, want, c.so)
			}
		}
	}
}

// P11.5: A, and of Dist the weight with it.
func TestSay(t *testing.T) {
	for _, label := range []int{api.None, 0, 4, top} {
		for _, weight := range []int{0, 1, 7, 1 << 32, api.MaxWeight - 1, api.MaxWeight} {
			for _, a := range []int{0, 1, 4, top, 1 << 32, api.MaxDist - api.MaxWeight} {
				says(t, api.Dist, val(a, label), api.Forward, weight, a+weight)
			}
			says(t, api.Dist, val(api.MaxDist-weight, label), api.Forward, weight, api.MaxDist)
			for _, a := range []int{0, 1, 4, top - 1, top} {
				for _, f := range forms()[1:] {
					says(t, f.kind, val(a, label), f.phase, weight, a)
				}
			}
		}
	}
}

// P11.5: values and weights that are not taken; this is told ahead of a sum that is too great.
func TestSayRefused(t *testing.T) {
	for _, f := range forms() {
		for _, weight := range append(outside(0, api.MaxWeight), 0, 1, api.MaxWeight) {
			for _, label := range []int{api.None, 0, top, top + 1, -2} {
				for _, a := range append(outside(api.None, f.most), api.None) {
					noSay(t, f.kind, val(a, label), f.phase, weight, api.ErrRange)
				}
			}
			for _, label := range outside(api.None, top) {
				for _, a := range []int{api.None, 0, 4, f.most - 1, f.most} {
					noSay(t, f.kind, val(a, label), f.phase, weight, api.ErrRange)
				}
			}
		}
		for _, weight := range outside(0, api.MaxWeight) {
			for _, a := range []int{api.None, 0, 4, f.most - 1, f.most} {
				for _, label := range []int{api.None, 0, 4, top} {
					noSay(t, f.kind, val(a, label), f.phase, weight, api.ErrRange)
				}
			}
		}
	}
}

// P11.5: a sum above MaxDist, of Dist alone.
func TestSayOver(t *testing.T) {
	for _, label := range []int{api.None, 0, top} {
		for _, weight := range []int{1, 2, 7, 1 << 32, api.MaxWeight - 1, api.MaxWeight} {
			noSay(t, api.Dist, val(api.MaxDist-weight+1, label), api.Forward, weight, api.ErrOver)
			noSay(t, api.Dist, val(api.MaxDist, label), api.Forward, weight, api.ErrOver)
		}
		says(t, api.Dist, val(api.MaxDist, label), api.Forward, 0, api.MaxDist)
		for _, f := range forms()[1:] {
			says(t, f.kind, val(top, label), f.phase, api.MaxWeight, top)
		}
	}
}

// P11.6.
func TestWays(t *testing.T) {
	for _, c := range []struct {
		kind, phase int
		out, in     bool
	}{
		{api.Dist, api.Forward, true, false},
		{api.Weak, api.Forward, true, true},
		{api.Strong, api.Forward, true, false},
		{api.Strong, api.Back, false, true},
	} {
		if out, in, e := Ways(c.kind, c.phase); out != c.out || in != c.in || e != api.OK {
			t.Errorf("Ways %d %d = %t %t %d, want %t %t", c.kind, c.phase, out, in, e, c.out, c.in)
		}
	}
}

// told: P11.2 to P11.4 word by word, for what is taken.
func told(c call) (api.Value, bool) {
	switch {
	case c.kind == api.Strong && c.old.Label != api.None:
		return c.old, false
	case c.phase == api.Back:
		if c.fresh && c.old.A == c.v || !c.fresh && slices.Index(c.mail, c.old.A) >= 0 {
			return val(c.old.A, c.old.A), true
		}
		return c.old, false
	case c.fresh && c.kind != api.Dist:
		return val(c.v, api.None), true
	case c.fresh && c.v == c.source:
		return val(0, api.None), true
	case c.fresh:
		return val(api.None, api.None), false
	}
	if len(c.mail) == 0 {
		return c.old, false
	}
	if least := slices.Min(c.mail); c.old.A == api.None || c.old.A > least {
		return val(least, c.old.Label), true
	}
	return c.old, false
}

// small calls: each form with all small numbers, and up to three pieces of mail.
func small(each func(call)) {
	var mails [][]int
	for a := range 4 {
		mails = append(mails, []int{a})
		for b := range 4 {
			mails = append(mails, []int{a, b})
			for c := range 4 {
				mails = append(mails, []int{a, b, c})
			}
		}
	}
	for _, f := range forms() {
		for v := range 4 {
			for a := api.None; a < 4; a++ {
				for label := api.None; label < 4; label++ {
					for _, mail := range append(mails, nil, []int{}) {
						each(call{f.kind, v, 2, val(a, label), f.phase, false, mail})
						each(call{f.kind, v, 2, val(a, label), f.phase, true, mail})
					}
				}
			}
		}
	}
}

// P11.2 to P11.4: all small calls, against the words.
func TestSmall(t *testing.T) {
	small(func(c call) {
		want, says := told(c)
		wakes(t, c, want, says)
	})
}

// die: numbers that look drawn, the same each time.
type die uint64

func (d *die) n(most int) int {
	*d = *d*6364136223846793005 + 1442695040888963407
	return int(uint64(*d>>33) % uint64(most))
}

// P11.2 to P11.4: drawn calls with much mail, against the words.
func TestDrawn(t *testing.T) {
	d := die(11)
	for range 20000 {
		f := forms()[d.n(4)]
		span := []int{3, 20, top + 1}[d.n(3)]
		c := call{kind: f.kind, v: d.n(span), source: d.n(span), phase: f.phase, fresh: d.n(3) == 0}
		c.old = val(d.n(span+1)-1, api.None)
		if d.n(3) == 0 {
			c.old.Label = d.n(span)
		}
		for range d.n(60) {
			c.mail = append(c.mail, d.n(span))
		}
		want, says := told(c)
		wakes(t, c, want, says)
	}
}

// What comes of it: the least of the mail is enough, but to Strong, Back; and its order is nothing to anyone.
func TestLeastIsEnough(t *testing.T) {
	small(func(c call) {
		want, says, _ := c.wake()
		other := c
		other.mail = slices.Clone(c.mail)
		slices.Reverse(other.mail)
		wakes(t, other, want, says)
		if len(c.mail) > 0 && c.phase != api.Back {
			other.mail = []int{slices.Min(c.mail)}
			wakes(t, other, want, says)
		}
	})
	back := call{api.Strong, 7, 0, val(4, api.None), api.Back, false, []int{1, 4}}
	wakes(t, back, val(4, 4), true)
	back.mail = back.mail[:1]
	wakes(t, back, val(4, api.None), false)
}

// What comes of it: in a round that is not fresh, values fall, and are never forgotten; what changed says so, and nothing else does.
func TestValuesFall(t *testing.T) {
	small(func(c call) {
		got, says, _ := c.wake()
		if c.fresh {
			return
		}
		if c.old.A != api.None && (got.A == api.None || got.A > c.old.A) || c.old.Label != api.None && got.Label != c.old.Label {
			t.Errorf("Wake %+v: %v rises, or is forgotten", c, got)
		}
		if says != (got != c.old) {
			t.Errorf("Wake %+v: %v, and it says so: %t", c, got, says)
		}
	})
}

// P11.2 to P11.4: mail stays as it was, its spare room too; the answer of a call hangs on no other call.
func TestMailStays(t *testing.T) {
	small(func(c call) {
		room := append(slices.Clone(c.mail), -77, 0, -78)
		before := slices.Clone(room)
		c.mail = room[:len(c.mail)]
		got, says, e := c.wake()
		again, saysAgain, f := c.wake()
		if !slices.Equal(room, before) {
			t.Errorf("Wake %+v changed its mail", c)
		}
		if got != again || says != saysAgain || e != f {
			t.Errorf("Wake %+v: %v %t %d, then %v %t %d", c, got, says, e, again, saysAgain, f)
		}
	})
}

// P11.1 to P11.4: much mail, of which the last piece is the one that counts.
func TestLongMail(t *testing.T) {
	for _, f := range forms() {
		c := f.plain(false)
		c.mail = slices.Repeat([]int{9}, api.MaxMail+1)
		wakes(t, c, c.old, false)
		c.mail[api.MaxMail] = -1
		noWake(t, c, api.ErrRange)
		c.mail[api.MaxMail] = f.most + 1
		noWake(t, c, api.ErrRange)
		if c.mail[api.MaxMail] = 4; f.phase == api.Back {
			wakes(t, c, val(4, 4), true)
			continue
		}
		wakes(t, c, c.old, false)
		c.mail[api.MaxMail] = 3
		wakes(t, c, val(3, api.None), true)
	}
}

// Examples of the chapter, and of what is told first where several errors apply.
func TestExamples(t *testing.T) {
	wakes(t, call{kind: api.Weak, v: 4, old: val(4, api.None), mail: []int{2, 3}}, val(2, api.None), true)
	noWake(t, call{kind: 4, v: -1, old: val(-2, -2), phase: 2, mail: []int{-1}}, api.ErrForm)
	noWake(t, call{kind: api.Weak, v: -1, old: val(-2, -2), phase: api.Back, mail: []int{-1}}, api.ErrForm)
	noWake(t, call{kind: api.Strong, v: -1, old: val(-2, -2), phase: api.Back, mail: []int{-1}}, api.ErrRange)
	noSay(t, api.Dist, val(api.MaxDist, -2), api.Back, api.MaxWeight, api.ErrForm)
	noSay(t, api.Dist, val(api.MaxDist, -2), api.Forward, api.MaxWeight, api.ErrRange)
	noSay(t, api.Dist, val(api.MaxDist, api.None), api.Forward, api.MaxWeight+1, api.ErrRange)
	noSay(t, api.Dist, val(api.MaxDist, api.None), api.Forward, api.MaxWeight, api.ErrOver)
}
