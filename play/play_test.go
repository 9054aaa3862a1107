package play

import (
	"fmt"
	"math"
	"math/big"
	"regexp"
	"slices"
	"strconv"
	"strings"
	"testing"

	"paceline/api"
	"paceline/engine"
)

// greatest number, as a text.
const greatest = "1152921504606846976"

// longest line that a move has.
const longest = "crash " + greatest + " " + greatest + "\n"

func moves(l ...api.Move) []api.Move { return l }

// move of a Kind.
func move(kind, at, keep int) api.Move { return api.Move{Kind: kind, At: at, Keep: keep} }

// alike: so many moves of one sort.
func alike(n int, m api.Move) []api.Move { return slices.Repeat(moves(m), n) }

// tell in short what was handed in or answered: texts may be long.
func tell(x any) string { return fmt.Sprintf("%.200q", fmt.Sprint(x)) }

// pairs: these moves are shown as this text, and this text is read as these moves.
func pairs(t *testing.T, l []api.Move, want string) {
	t.Helper()
	if s, e := Show(l); e != api.OK || s != want {
		t.Errorf("Show %s = %s %d, want %s", tell(l), tell(s), e, tell(want))
	}
	if r, e := Read(want); e != api.OK || !slices.Equal(r, l) {
		t.Errorf("Read %s = %s %d, want %s", tell(want), tell(r), e, tell(l))
	}
}

// noText: the moves are refused with that error, and no text is answered.
func noText(t *testing.T, want api.Errno, l ...api.Move) {
	t.Helper()
	if s, e := Show(l); e != want || s != "" {
		t.Errorf("Show %s = %s %d, want nothing, %d", tell(l), tell(s), e, want)
	}
}

// noMoves: the texts are refused with that error, and no move is answered.
func noMoves(t *testing.T, want api.Errno, texts ...string) {
	t.Helper()
	for _, s := range texts {
		if l, e := Read(s); e != want || len(l) != 0 {
			t.Errorf("Read %s = %s %d, want nothing, %d", tell(s), tell(l), e, want)
		}
	}
}

// P17.1: the word of each Kind, and its numbers.
func TestWords(t *testing.T) {
	pairs(t, moves(move(api.Work, 1, 0)), "work 1\n")
	pairs(t, moves(move(api.Carry, 2, 0)), "carry 2\n")
	pairs(t, moves(move(api.Lose, 3, 0)), "lose 3\n")
	pairs(t, moves(move(api.Double, 4, 0)), "double 4\n")
	pairs(t, moves(move(api.All, 0, 0)), "all\n")
	pairs(t, moves(move(api.Crash, 6, 7)), "crash 6 7\n")
	pairs(t, moves(move(api.Start, 8, 0)), "start 8\n")
	pairs(t, moves(move(api.Lead, 0, 0)), "lead\n")
	// The chapter's examples.
	pairs(t, moves(move(api.Crash, 1, 5)), "crash 1 5\n")
	noMoves(t, api.ErrForm, "crash 1\n", "crash 1")
}

// P17.2: At and Keep at both bounds, and decimal digits of all lengths.
func TestNumbers(t *testing.T) {
	for _, f := range numbered {
		pairs(t, moves(move(f.kind, 0, 0)), f.word+" 0\n")
		pairs(t, moves(move(f.kind, api.MaxNumber, 0)), f.word+" "+greatest+"\n")
		n := 1
		for range len(greatest) {
			pairs(t, moves(move(f.kind, n-1, 0), move(f.kind, n, 0)), fmt.Sprintf("%s %d\n%s %d\n", f.word, n-1, f.word, n))
			n *= 10
		}
	}
	pairs(t, moves(move(api.Crash, 0, 0)), "crash 0 0\n")
	pairs(t, moves(move(api.Crash, 0, api.MaxNumber)), "crash 0 "+greatest+"\n")
	pairs(t, moves(move(api.Crash, api.MaxNumber, 0)), "crash "+greatest+" 0\n")
	pairs(t, moves(move(api.Crash, api.MaxNumber, api.MaxNumber)), longest)
	pairs(t, moves(move(api.Crash, 12, 345), move(api.Crash, 345, 12)), "crash 12 345\ncrash 345 12\n")
}

// numbered: the Kinds whose lines have At alone, told anew.
var numbered = []struct {
	kind int
	word string
}{{api.Work, "work"}, {api.Carry, "carry"}, {api.Lose, "lose"}, {api.Double, "double"}, {api.Start, "start"}}

// outside of what At and Keep may be.
var outside = []int{-1, math.MinInt, math.MinInt + 1, -api.MaxNumber, api.MaxNumber + 1, 2 * api.MaxNumber, math.MaxInt}

// P17.3: the lines of all moves, one behind the other, as they stand.
func TestManyLines(t *testing.T) {
	pairs(t, moves(move(api.All, 0, 0), move(api.Work, 2, 0)), "all\nwork 2\n")
	pairs(t, moves(move(api.Lead, 0, 0), move(api.Crash, 1, 5), move(api.Start, 1, 0), move(api.Lead, 0, 0), move(api.Lead, 0, 0)),
		"lead\ncrash 1 5\nstart 1\nlead\nlead\n")
	pairs(t, moves(move(api.Lose, 9, 0), move(api.Double, 0, 0), move(api.Carry, 10, 0)), "lose 9\ndouble 0\ncarry 10\n")
}

// P17.3, P17.4: no move has no line.
func TestNone(t *testing.T) {
	pairs(t, nil, "")
	pairs(t, moves(), "")
}

// P17.3, P17.4: MaxMoves moves, with the shortest lines and with the longest ones.
func TestMostMoves(t *testing.T) {
	pairs(t, alike(api.MaxMoves, move(api.All, 0, 0)), strings.Repeat("all\n", api.MaxMoves))
	pairs(t, alike(api.MaxMoves, move(api.Crash, api.MaxNumber, api.MaxNumber)), strings.Repeat(longest, api.MaxMoves))
}

// P17.2, P17.3: there is no such Kind; that is told ahead of numbers outside.
func TestShowNoKind(t *testing.T) {
	for _, kind := range []int{0, -1, 9, 10, 16, 256 + api.Work, 1<<32 + api.Work, -api.Work, math.MinInt, math.MaxInt} {
		noText(t, api.ErrForm, move(kind, 0, 0))
		noText(t, api.ErrForm, move(kind, 1, 0))
		noText(t, api.ErrForm, move(kind, 1, 1))
		for _, n := range outside {
			noText(t, api.ErrForm, move(kind, n, 0))
			noText(t, api.ErrForm, move(kind, 0, n))
			noText(t, api.ErrForm, move(kind, n, n))
		}
	}
}

// P17.2, P17.3: At or Keep outside of 0 to MaxNumber.
func TestShowOutside(t *testing.T) {
	for kind := api.Work; kind <= api.Lead; kind++ {
		for _, n := range outside {
			noText(t, api.ErrRange, move(kind, n, 0))
			noText(t, api.ErrRange, move(kind, 0, n))
			noText(t, api.ErrRange, move(kind, n, n))
			noText(t, api.ErrRange, move(kind, n, 1))
			noText(t, api.ErrRange, move(kind, 1, n))
		}
	}
}

// P17.2, P17.3: At or Keep is not 0, though the Kind has none.
func TestShowNumberTooMany(t *testing.T) {
	for _, n := range []int{1, 2, 10, api.MaxNumber} {
		for _, kind := range []int{api.All, api.Lead} {
			noText(t, api.ErrRange, move(kind, n, 0))
			noText(t, api.ErrRange, move(kind, 0, n))
			noText(t, api.ErrRange, move(kind, n, n))
		}
		for _, f := range numbered {
			noText(t, api.ErrRange, move(f.kind, 0, n))
			noText(t, api.ErrRange, move(f.kind, n, n))
		}
	}
}

// P17.3: of several moves without a line the first one tells the error; the others ahead are not shown.
func TestShowFirstWrong(t *testing.T) {
	right, noKind, noRange := move(api.Work, 1, 0), move(9, 0, 0), move(api.Lead, 1, 0)
	noText(t, api.ErrForm, right, noKind)
	noText(t, api.ErrForm, noKind, right)
	noText(t, api.ErrForm, noKind, noRange)
	noText(t, api.ErrForm, right, noKind, right, noRange, right)
	noText(t, api.ErrRange, right, noRange)
	noText(t, api.ErrRange, noRange, right)
	noText(t, api.ErrRange, noRange, noKind)
	noText(t, api.ErrRange, right, noRange, right, noKind, right)
	noText(t, api.ErrForm, append(alike(api.MaxMoves-1, right), noKind)...)
	noText(t, api.ErrRange, append(alike(api.MaxMoves-1, right), noRange)...)
}

// P17.3: one move more than MaxMoves is refused, ahead of moves without a line.
func TestShowSize(t *testing.T) {
	for _, m := range []api.Move{move(api.All, 0, 0), move(api.Crash, 1, 5), {}, move(9, 0, 0), move(api.Work, -1, 0), move(api.Lead, 1, 0)} {
		noText(t, api.ErrSize, alike(api.MaxMoves+1, m)...)
		noText(t, api.ErrSize, append(alike(api.MaxMoves, move(api.All, 0, 0)), m)...)
		noText(t, api.ErrSize, append(moves(m), alike(api.MaxMoves, move(api.All, 0, 0))...)...)
	}
	noText(t, api.ErrSize, alike(2*api.MaxMoves, move(api.All, 0, 0))...)
}

// P17.4: no text is too long up to 50 times MaxMoves bytes, and each one above; that is told ahead of ErrForm.
func TestReadSize(t *testing.T) {
	const most = 50 * api.MaxMoves
	for _, piece := range []string{"x", "0", "\n", " ", "\x00", "\xff", "work 1 "} {
		s := strings.Repeat(piece, most/len(piece)+1)
		noMoves(t, api.ErrForm, s[:most], s[:most-1], "work "+s[:most-5], "all\n"+s[:most-4])
		noMoves(t, api.ErrSize, s[:most]+"\n", "work "+s[:most-4], "all\n"+s[:most-3])
	}
	// The length is told in bytes, not in runes.
	noMoves(t, api.ErrForm, strings.Repeat("é", most/2))
	noMoves(t, api.ErrSize, strings.Repeat("é", most/2+1))
	// All lines are moves', and there are too many of them whether or not there are too many bytes.
	noMoves(t, api.ErrSize, strings.Repeat("all\n", most/4), strings.Repeat("all\n", most/4+1), strings.Repeat(longest, most/len(longest)))
}

// P17.4: one line more than MaxMoves is refused; but a line that is no move's goes first, wherever it stands.
func TestReadTooManyLines(t *testing.T) {
	for _, line := range []string{"all\n", "work 1\n", "crash 1 5\n", longest} {
		most := strings.Repeat(line, api.MaxMoves)
		noMoves(t, api.ErrSize, most+"all\n", "lead\n"+most, most+most[:len(line)*5])
		for _, wrong := range []string{"all", "lead 0\n", "\n", "x\n", "work 01\n", " "} {
			noMoves(t, api.ErrForm, most[len(line):]+wrong, most+wrong, most+"all\n"+wrong)
		}
		noMoves(t, api.ErrForm, "\n"+most, "\n"+most[len(line):], "work\n"+most+"all\n")
	}
}

// P17.4: lines and their ends.
func TestReadLines(t *testing.T) {
	noMoves(t, api.ErrForm,
		"lead", "all", "work 1", "crash 1 5", "lead\nlead", "lead\nall\nwork 1",
		"\n", "\n\n", "\nlead\n", "lead\n\n", "lead\n\nlead\n", "lead\n\n\n", "work 1\n\nlead\n",
		"lead\r\n", "lead\r", "lead\n\r", "lead\r\nall\r\n", "work 1\r\n", "work\n1\n", "crash 1\n5\n", "crash\n1 5\n",
		"lead all\n", "leadall\n", "all\nleadlead\n", "work 1 work 2\n", "work 1work 2\n", "work 1 all\n", "lead\n\x00", "lead\n ", "lead\n#\n",
		"\ufefflead\n", "lead\x00\n", "\x00lead\n", "lead\n\x00\n", "lead\u2028all\n", "lead\u0085all\n", "lead\v", "lead;",
	)
}

// P17.4: words that there are not.
func TestReadWords(t *testing.T) {
	for _, word := range []string{
		"", "w", "wor", "works", "Work", "WORK", "worK", "wörk", "workwork", "work0", "work1", "\"work\"", "work:", "work,", "#work", "-work", "work\x00",
		"carr", "carry1", "Carry", "los", "loses", "lost", "Lose", "doubl", "doubles", "Double", "star", "starts", "Start", "stop",
		"al", "alle", "All", "crashes", "cras", "Crash", "leader", "lea", "Lead", "none", "0", "1", "5", "8", "\xff", "ｗｏｒｋ", "x",
	} {
		noMoves(t, api.ErrForm, word+"\n", word+" \n", word+" 0\n", word+" 1\n", word+" 1 5\n", "all\n"+word+" 1\n", word+" 1\nall\n", "all\n"+word+"\nall\n")
	}
}

// P17.4: a number too few or too many, a nought that is not asked for among them.
func TestReadCounts(t *testing.T) {
	for _, f := range numbered {
		noMoves(t, api.ErrForm, f.word+"\n", f.word+" 1 1\n", f.word+" 1 0\n", f.word+" 0 0\n", f.word+" 1 2 3\n", f.word+" 1 x\n")
	}
	for _, word := range []string{"all", "lead"} {
		noMoves(t, api.ErrForm, word+" 0\n", word+" 1\n", word+" 0 0\n", word+" 1 5\n", word+" 0 1\n", word+" x\n")
	}
	noMoves(t, api.ErrForm, "crash\n", "crash 1\n", "crash 0\n", "crash 1 5 0\n", "crash 1 5 9\n", "crash 0 0 0\n", "crash 1 5 x\n", "crash 1 2 3 4\n")
}

// P17.4: blanks too many or lacking, and other bytes in their stead.
func TestReadBlanks(t *testing.T) {
	noMoves(t, api.ErrForm,
		" lead\n", "lead \n", "lead  \n", " \n", "  \n", "lead\n \n", " all\n", "all \n",
		" work 1\n", "work  1\n", "work 1 \n", "work 1  \n", "work1\n", "work \n", "work  \n", "wo rk 1\n", "work 1 1 \n",
		" crash 1 5\n", "crash  1 5\n", "crash 1  5\n", "crash 1 5 \n", "crash 15\n", "crash1 5\n", "crash 1 \n", "crash  5\n", "crash  \n", "crash   \n",
		"work\t1\n", "\twork 1\n", "work 1\t\n", "crash 1\t5\n", "crash 1,5\n", "crash 1, 5\n", "work\u00a01\n", "work\u30001\n", "work\v1\n", "work\f1\n",
		"work\x001\n", "work-1\n", "work:1\n", "work(1)\n", "work=1\n", "crash 1_5\n", "crash 1-5\n",
	)
}

// P17.4: noughts ahead, signs, what is no digit, and numbers above MaxNumber or above what an int holds, at each place.
func TestReadNumbers(t *testing.T) {
	for _, n := range []string{
		"", "00", "01", "001", "010", "+0", "+1", "-0", "-1", "--1", "+-1", "1-", "1+", "0x1", "0b1", "0o1", "1_0", "_1", "1_",
		"1.0", "1.", ".1", "1e0", "1E0", "a", "A", "x", "0x", "inf", "nan", "/", ":", "1:", "/1", "\x00", "1\x00", "\xff", "1\xff", "\x80",
		"١", "１", "𝟏", "²", "½", "1'", "\"1\"", "(1)", "-" + greatest, "+" + greatest, "0" + greatest, greatest + "0",
		"1152921504606846977", "1152921504606846980", "2305843009213693952", "9223372036854775807", "9223372036854775808", "-9223372036854775808", "-9223372036854775809",
		"18446744073709551615", "18446744073709551616", "18446744073709551617", "36893488147419103232",
		"340282366920938463463374607431768211457", "1" + strings.Repeat("0", 1000), strings.Repeat("0", 1000) + "1", strings.Repeat("9", 100000),
	} {
		for _, f := range numbered {
			noMoves(t, api.ErrForm, f.word+" "+n+"\n", "all\n"+f.word+" "+n+"\n")
		}
		noMoves(t, api.ErrForm, "crash "+n+" 5\n", "crash 1 "+n+"\n", "crash "+n+" "+n+"\n", "lead\ncrash 1 "+n+"\nlead\n", "all "+n+"\n", "lead "+n+"\n")
	}
}

// shape of a text, as the chapter says it, told by other means than the program's.
var shape = regexp.MustCompile(`\A(?:(?:(?:(?:work|carry|lose|double|start)|crash (?:0|[1-9][0-9]*)) (?:0|[1-9][0-9]*)|all|lead)\n)*\z`)

// kinds: which word is which Kind's.
var kinds = strings.Fields("- work carry lose double all crash start lead")

// model: the moves that a text tells, if there are any such; of at most MaxMoves lines.
func model(s string) ([]api.Move, api.Errno) {
	if !shape.MatchString(s) {
		return nil, api.ErrForm
	}
	var l []api.Move
	for _, word := range strings.Fields(s) {
		if k := slices.Index(kinds, word); k >= 0 {
			l = append(l, api.Move{Kind: k, At: -1, Keep: -1})
			continue
		}
		n, _ := new(big.Int).SetString(word, 10)
		if n.Cmp(big.NewInt(api.MaxNumber)) > 0 {
			return nil, api.ErrForm
		}
		if m := &l[len(l)-1]; m.At < 0 {
			m.At = int(n.Int64())
		} else {
			m.Keep = int(n.Int64())
		}
	}
	for i := range l {
		l[i].At, l[i].Keep = max(l[i].At, 0), max(l[i].Keep, 0)
	}
	return l, api.OK
}

// holds: Read answers what the model answers; and what is read is shown as it was.
func holds(t *testing.T, s string) api.Errno {
	t.Helper()
	want, f := model(s)
	l, e := Read(s)
	if e != f || !slices.Equal(l, want) {
		t.Fatalf("Read %s = %s %d, want %s %d", tell(s), tell(l), e, tell(want), f)
	}
	if e == api.OK {
		if b, e := Show(l); e != api.OK || b != s {
			t.Fatalf("Read %s, then Show = %s %d", tell(s), tell(b), e)
		}
	}
	return e
}

// P17.4: whatever few bytes, of those that matter, follow a word or a number.
func TestReadAllShortTexts(t *testing.T) {
	const letters = "01 \n-+"
	count := map[api.Errno]int{}
	var grow func(s string, more int)
	grow = func(s string, more int) {
		count[holds(t, s)]++
		if more > 0 {
			for _, c := range letters {
				grow(s+string(c), more-1)
			}
		}
	}
	for _, s := range []string{"", "work", "carry", "lose", "double", "all", "crash", "start", "lead", "crash 1", "crash 0 ", "lead\nwork ", "all\n"} {
		grow(s, 5)
	}
	if count[api.OK] < 100 || count[api.ErrForm] < 10000 {
		t.Errorf("%v: too few of one kind", count)
	}
}

// P17.4: each single byte laid into a text, laid over one of its bytes, or taken away.
func TestReadEachByte(t *testing.T) {
	const s = "work 10\nall\ncrash 0 " + greatest + "\nlose 7\nlead\ndouble 0\ncarry 2\nstart 1\n"
	for i := range len(s) + 1 {
		for b := range 256 {
			holds(t, s[:i]+string([]byte{byte(b)})+s[i:])
			if i < len(s) {
				holds(t, s[:i]+string([]byte{byte(b)})+s[i+1:])
			}
		}
		if i < len(s) {
			holds(t, s[:i]+s[i+1:])
		}
		holds(t, s[:i])
		holds(t, s[i:])
	}
}

// die: numbers that look drawn, the same each time.
type die uint64

func (d *die) n(most int) int {
	*d = *d*6364136223846793005 + 1442695040888963407
	return int(uint64(*d>>33) % uint64(most))
}

// number from 0 to MaxNumber, of any length.
func (d *die) number() int {
	n := d.n(1<<30)<<30 | d.n(1<<30)
	if d.n(9) == 0 {
		return api.MaxNumber - n>>55
	}
	return n >> d.n(61)
}

// move that looks drawn, and has a line.
func (d *die) move() api.Move {
	m := api.Move{Kind: 1 + d.n(8)}
	if m.Kind != api.All && m.Kind != api.Lead {
		m.At = d.number()
	}
	if m.Kind == api.Crash {
		m.Keep = d.number()
	}
	return m
}

func (d *die) moves(most int) []api.Move {
	var l []api.Move
	for range d.n(most + 1) {
		l = append(l, d.move())
	}
	return l
}

// P17.2: the lines, put together anew.
func text(l []api.Move) string {
	var s strings.Builder
	for _, m := range l {
		s.WriteString(kinds[m.Kind])
		if m.Kind != api.All && m.Kind != api.Lead {
			s.WriteString(" " + strconv.Itoa(m.At))
		}
		if m.Kind == api.Crash {
			s.WriteString(" " + strconv.Itoa(m.Keep))
		}
		s.WriteString("\n")
	}
	return s.String()
}

// spoil a text at a place.
func (d *die) spoil(s string) string {
	i := d.n(len(s))
	j := min(len(s), i+d.n(3))
	return s[:i] + []string{"", "", " ", "\n", "0", "1", "9", "-", "\t", "all\n", " 1", "\nlead\n"}[d.n(12)] + s[j:]
}

// P17.1 to P17.4: drawn moves are shown as a plain writer shows them, and read as they were; spoilt texts are read as the model reads them.
func TestDrawn(t *testing.T) {
	d := die(1)
	count := map[api.Errno]int{}
	for range 5000 {
		l := d.moves(8)
		pairs(t, l, text(l))
		s := text(l)
		for range 4 {
			if s == "" {
				break
			}
			s = d.spoil(s)
			count[holds(t, s)]++
		}
	}
	if count[api.OK] < 1000 || count[api.ErrForm] < 1000 {
		t.Errorf("%v: too few of one kind", count)
	}
	for range 5 {
		l := d.moves(api.MaxMoves)
		pairs(t, l, text(l))
	}
}

// refusal: what a single move is refused with, told anew.
func refusal(m api.Move) api.Errno {
	within := func(n, most int) bool { return 0 <= n && n <= most }
	most := [9][2]int{api.All: {}, api.Crash: {api.MaxNumber, api.MaxNumber}, api.Lead: {}}
	for _, f := range numbered {
		most[f.kind][0] = api.MaxNumber
	}
	if !within(m.Kind-1, 7) {
		return api.ErrForm
	}
	if !within(m.At, most[m.Kind][0]) || !within(m.Keep, most[m.Kind][1]) {
		return api.ErrRange
	}
	return api.OK
}

// P17.3: of drawn moves, some without a line, the first one of these tells the error.
func TestDrawnWrong(t *testing.T) {
	d := die(2)
	count := map[api.Errno]int{}
	for range 5000 {
		l := d.moves(6)
		for i := range l {
			switch d.n(12) {
			case 0:
				l[i].Kind = d.n(14) - 3
			case 1:
				l[i].At = outside[d.n(len(outside))]
			case 2:
				l[i].Keep = d.n(3) - 1
			}
		}
		want := api.OK
		if i := slices.IndexFunc(l, func(m api.Move) bool { return refusal(m) != api.OK }); i >= 0 {
			want = refusal(l[i])
		}
		if count[want]++; want == api.OK {
			pairs(t, l, text(l))
		} else {
			noText(t, want, l...)
		}
	}
	if count[api.OK] < 300 || count[api.ErrForm] < 300 || count[api.ErrRange] < 300 {
		t.Errorf("%v: too few of one kind", count)
	}
}

// P17.3: no call changes what is handed in, its spare room neither; right or not.
func TestShowChangesNothing(t *testing.T) {
	d := die(3)
	for i := range 300 {
		l := append(d.moves(9), d.move())
		room := append(slices.Clone(l), alike(3, move(7, 8, 9))...)
		if i%3 == 2 {
			room[d.n(len(l))] = move(d.n(3), -1, -1)
		}
		was := slices.Clone(room)
		Show(room[:len(l)])
		if !slices.Equal(room, was) {
			t.Fatalf("Show changed %s to %s", tell(was), tell(room))
		}
	}
}

// P17.4: an answer is new memory, spare room too.
func TestReadNewMemory(t *testing.T) {
	const s = "work 1\nall\ncrash 1 5\n"
	want := moves(move(api.Work, 1, 0), move(api.All, 0, 0), move(api.Crash, 1, 5))
	a, _ := Read(s)
	b, _ := Read(s)
	for l, i := a[:cap(a)], 0; i < len(l); i++ {
		l[i] = move(9, 9, 9)
	}
	if !slices.Equal(b, want) {
		t.Errorf("one answer was changed with another one: %s", tell(b))
	}
	if c, e := Read(s); e != api.OK || !slices.Equal(c, want) {
		t.Errorf("Read %s = %s %d behind a change of an earlier answer", tell(s), tell(c), e)
	}
}

// P17.3, P17.4: an answer does not hang on what was asked before.
func TestNothingKept(t *testing.T) {
	for i := range 3 {
		pairs(t, moves(move(api.Crash, 1, i)), "crash 1 "+strconv.Itoa(i)+"\n")
		noMoves(t, api.ErrForm, "crash 1\n", "lead\nall")
		noText(t, api.ErrRange, move(api.All, 0, 0), move(api.Lead, 0, 1))
		pairs(t, nil, "")
	}
}

// lines may be left by whoever takes them: none is yielded any more.
func TestLinesLeft(t *testing.T) {
	var got []string
	for line := range lines("all\nlead\nwork 1") {
		if got = append(got, line); len(got) == 2 {
			break
		}
	}
	if !slices.Equal(got, []string{"all\n", "lead\n"}) {
		t.Errorf("%q: not the first two lines", got)
	}
}

// The document's example of the whole, as a script: two workers and what they come to, behind a crash too.
func TestScript(t *testing.T) {
	j := api.Job{Graph: api.Graph{N: 2, Edges: []api.Edge{{From: 0, To: 1}}}, Kind: api.Weak}
	task := api.Task{Job: j, Workers: 2, Every: 1, Budget: 2}
	const round = "work 0\nwork 1\nlead\nwork 0\nwork 1\nall\nlead\n"
	for _, c := range []struct {
		script string
		epoch  int
	}{
		{strings.Repeat(round, 12), 0},
		{round + "crash 1 0\nstart 1\nlead\n" + strings.Repeat(round, 12), 1},
	} {
		l, e := Read(c.script)
		if e != api.OK {
			t.Fatalf("Read %s: %d", tell(c.script), e)
		}
		o, e := engine.Run(task, l)
		if e != api.OK || o.Status != api.Done || o.Step != 3 || o.Epoch != c.epoch || o.Values[0].A != 0 || o.Values[1].A != 0 {
			t.Errorf("%s: %s %d", tell(c.script), tell(o), e)
		}
	}
}
