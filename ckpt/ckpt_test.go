package ckpt

import (
	"bytes"
	"encoding/binary"
	"fmt"
	"math"
	"slices"
	"strings"
	"testing"

	"paceline/api"
	"paceline/disk"
	"paceline/frame"
)

const (
	top  = api.MaxVertices - 1 // the greatest vertex
	none = api.None

	nextFile = "next" // the file that is written
)

func val(a, label int) api.Value { return api.Value{A: a, Label: label} }

func vals(l ...api.Value) []api.Value { return l }

// mail of numbers two by two: To and Value.
func mail(numbers ...int) []api.Mail {
	var l []api.Mail
	for i := 0; i < len(numbers); i += 2 {
		l = append(l, api.Mail{To: numbers[i], Value: numbers[i+1]})
	}
	return l
}

// many pieces of mail, all alike.
func many(n, to, value int) []api.Mail { return slices.Repeat(mail(to, value), n) }

// at: little that is saved, and its Step tells it from others.
func at(step int) api.Saved {
	return api.Saved{Step: step, Values: vals(val(step, none)), Mail: mail(1, 2, 3, 300)}
}

// plain: one that may be saved, with two of each list.
func plain() api.Saved {
	return api.Saved{Step: 7, Phase: 1, Fresh: true, Values: vals(val(3, none), val(none, 2)), Mail: mail(1, 4, 2, 0)}
}

// tell in short what was handed in or answered: lists may be long.
func tell(x any) string { return fmt.Sprintf("%.400s", fmt.Sprint(x)) }

func same(a, b api.Saved) bool {
	return a.Step == b.Step && a.Phase == b.Phase && a.Fresh == b.Fresh && slices.Equal(a.Values, b.Values) && slices.Equal(a.Mail, b.Mail)
}

func zero(s api.Saved) bool { return same(s, api.Saved{}) }

func sameDisk(a, b api.Disk) bool {
	return slices.EqualFunc(a.Files, b.Files, func(x, y api.File) bool {
		return x.Name == y.Name && bytes.Equal(x.Data, y.Data) && x.Synced == y.Synced
	})
}

// payloadOf anything, whether it may be saved or not, by the library's own numbers.
func payloadOf(s api.Saved) []byte {
	var b []byte
	put := func(n int) { b = binary.AppendUvarint(b, uint64(n)) }
	put(s.Step)
	put(s.Phase)
	if s.Fresh {
		put(1)
	} else {
		put(0)
	}
	put(len(s.Values))
	for _, x := range s.Values {
		put(x.A + 1)
		put(x.Label + 1)
	}
	put(len(s.Mail))
	for _, m := range s.Mail {
		put(m.To)
		put(m.Value)
	}
	return b
}

func wrap(t *testing.T, payload []byte) []byte {
	t.Helper()
	b, e := frame.Wrap(payload)
	if e != api.OK {
		t.Fatalf("a payload of %d bytes has no frame: %d", len(payload), e)
	}
	return b
}

func bytesOf(t *testing.T, s api.Saved) []byte {
	t.Helper()
	return wrap(t, payloadOf(s))
}

// encodes: Encode answers the frame of that payload, and Decode tells of it what was encoded.
func encodes(t *testing.T, s api.Saved, payload ...byte) {
	t.Helper()
	want := wrap(t, payload)
	if got, e := Encode(s); e != api.OK || !bytes.Equal(got, want) {
		t.Errorf("Encode %s = %s %d, want %s", tell(s), tell(got), e, tell(want))
	}
	decodes(t, want, s)
}

func decodes(t *testing.T, b []byte, want api.Saved) {
	t.Helper()
	if got, e := Decode(b); e != api.OK || !same(got, want) {
		t.Errorf("Decode %s = %s %d, want %s", tell(b), tell(got), e, tell(want))
	}
}

// noEncode: neither Encode nor Put takes it, whatever the disk is, and nothing else is answered.
func noEncode(t *testing.T, s api.Saved, want api.Errno) {
	t.Helper()
	if got, e := Encode(s); e != want || len(got) != 0 {
		t.Errorf("Encode %s = %s %d, want none, %d", tell(s), tell(got), e, want)
	}
	for _, d := range []api.Disk{{}, filler(api.MaxFiles), filler(api.MaxFiles + 1), diskOf(file(nextFile, "1", 0))} {
		noPut(t, d, s, want)
	}
}

func noDecode(t *testing.T, b []byte, want api.Errno) {
	t.Helper()
	if got, e := Decode(b); e != want || !zero(got) {
		t.Errorf("Decode %s = %s %d, want nothing, %d", tell(b), tell(got), e, want)
	}
}

// noForm: a whole frame with this payload is ErrForm.
func noForm(t *testing.T, payload ...byte) {
	t.Helper()
	noDecode(t, wrap(t, payload), api.ErrForm)
}

// mayNot be saved: it is refused, and bytes that would be its own are none.
func mayNot(t *testing.T, s api.Saved) {
	t.Helper()
	noEncode(t, s, api.ErrState)
	if payload := payloadOf(s); len(payload) <= api.MaxFrame {
		noForm(t, payload...)
	}
}

// may be saved.
func may(t *testing.T, s api.Saved) {
	t.Helper()
	encodes(t, s, payloadOf(s)...)
}

// outside: numbers that are not from least to most.
func outside(least, most int) []int {
	return []int{least - 1, least - 2, -1 << 32, math.MinInt, math.MinInt + 1, most + 1, most + 2, 1<<62 + 1, math.MaxInt}
}

// P14.2: payloads written out by hand.
func TestEncode(t *testing.T) {
	encodes(t, api.Saved{}, 0, 0, 0, 0, 0)
	encodes(t, api.Saved{Values: []api.Value{}, Mail: []api.Mail{}}, 0, 0, 0, 0, 0)
	encodes(t, api.Saved{Step: 5}, 5, 0, 0, 0, 0)
	encodes(t, api.Saved{Phase: 1}, 0, 1, 0, 0, 0)
	encodes(t, api.Saved{Fresh: true}, 0, 0, 1, 0, 0)
	encodes(t, api.Saved{Step: 300, Phase: 1, Fresh: true}, 172, 2, 1, 1, 0, 0)
	encodes(t, api.Saved{Values: vals(val(4, 9))}, 0, 0, 0, 1, 5, 10, 0)
	encodes(t, api.Saved{Mail: mail(4, 9)}, 0, 0, 0, 0, 1, 4, 9)
	encodes(t, plain(), 7, 1, 1, 2, 4, 0, 0, 3, 2, 1, 4, 2, 0)
	encodes(t, api.Saved{Step: 1, Values: vals(val(127, 126)), Mail: mail(127, 127, 128, 128)},
		1, 0, 0, 1, 128, 1, 127, 2, 127, 127, 128, 1, 128, 1)
	encodes(t, at(2), 2, 0, 0, 1, 3, 0, 2, 1, 2, 3, 172, 2)
}

// P14.1, P14.2: the edges of numbers, each with its bytes.
func TestEncodeEdges(t *testing.T) {
	encodes(t, api.Saved{Step: api.MaxStep}, 160, 141, 6, 0, 0, 0, 0)
	encodes(t, api.Saved{Values: vals(val(none, none))}, 0, 0, 0, 1, 0, 0, 0)
	encodes(t, api.Saved{Values: vals(val(0, 0))}, 0, 0, 0, 1, 1, 1, 0)
	encodes(t, api.Saved{Values: vals(val(api.MaxDist, top))}, 0, 0, 0, 1, 129, 128, 128, 128, 128, 128, 1, 200, 1, 0)
	encodes(t, api.Saved{Mail: mail(0, 0)}, 0, 0, 0, 0, 1, 0, 0)
	encodes(t, api.Saved{Mail: mail(top, api.MaxDist)}, 0, 0, 0, 0, 1, 199, 1, 128, 128, 128, 128, 128, 128, 1)
	// Mail that is alike, and mail whose Values fall from To to To.
	encodes(t, api.Saved{Mail: mail(3, 5, 3, 5, 3, 5)}, 0, 0, 0, 0, 3, 3, 5, 3, 5, 3, 5)
	encodes(t, api.Saved{Mail: mail(0, 9, 1, 5, 1, 6, 2, 0)}, 0, 0, 0, 0, 4, 0, 9, 1, 5, 1, 6, 2, 0)
}

// P14.1: all that may be, edge by edge, of each number by itself and with the others.
func TestMayBe(t *testing.T) {
	for _, step := range []int{0, 1, 127, 128, api.MaxStep - 1, api.MaxStep} {
		for _, phase := range []int{api.Forward, api.Back} {
			for _, fresh := range []bool{false, true} {
				may(t, api.Saved{Step: step, Phase: phase, Fresh: fresh})
				s := plain()
				s.Step, s.Phase, s.Fresh = step, phase, fresh
				may(t, s)
			}
		}
	}
	for _, a := range []int{none, 0, 1, top, top + 1, 1 << 40, api.MaxDist - 1, api.MaxDist} {
		for _, label := range []int{none, 0, 1, top - 1, top} {
			for i := range 2 {
				s := plain()
				s.Values[i] = val(a, label)
				may(t, s)
			}
		}
	}
	for _, to := range []int{0, 1, 127, 128, top - 1, top} {
		for _, value := range []int{0, 1, top + 1, api.MaxDist - 1, api.MaxDist} {
			s := plain()
			s.Mail = mail(to, value)
			may(t, s)
			s.Mail = mail(to, value, to, value)
			may(t, s)
		}
	}
}

// P14.1: Step, by itself.
func TestMayNotStep(t *testing.T) {
	for _, step := range outside(0, api.MaxStep) {
		mayNot(t, api.Saved{Step: step})
		s := plain()
		s.Step = step
		mayNot(t, s)
	}
}

// P14.1: Phase, by itself.
func TestMayNotPhase(t *testing.T) {
	for _, phase := range outside(0, 1) {
		mayNot(t, api.Saved{Phase: phase})
		s := plain()
		s.Phase = phase
		mayNot(t, s)
	}
}

// P14.1: a value's A and its Label, each by itself, of the first, a middle and the last value.
func TestMayNotValues(t *testing.T) {
	for i := range 3 {
		for _, a := range outside(none, api.MaxDist) {
			s := plain()
			s.Values = slices.Repeat(vals(val(1, 1)), 3)
			s.Values[i].A = a
			mayNot(t, s)
		}
		for _, label := range append(outside(none, top), api.MaxDist) {
			s := plain()
			s.Values = slices.Repeat(vals(val(1, 1)), 3)
			s.Values[i].Label = label
			mayNot(t, s)
		}
	}
}

// P14.1: mail that may not wait, its To and its Value each by itself; it stands in order.
func TestMayNotWait(t *testing.T) {
	for _, to := range append(outside(0, top), none, api.MaxDist) {
		mayNot(t, api.Saved{Mail: mail(to, 5)})
		mayNot(t, api.Saved{Mail: mail(min(to, 3), 5, max(to, 3), 5)})
	}
	for _, value := range append(outside(0, api.MaxDist), none) {
		mayNot(t, api.Saved{Mail: mail(3, value)})
		mayNot(t, api.Saved{Mail: mail(2, 1, 3, value, 4, 1)})
		mayNot(t, api.Saved{Mail: mail(3, value, 4, 1)})
		mayNot(t, api.Saved{Mail: mail(2, 1, 3, value)})
	}
}

// P14.1: mail out of order, by To and by Value, at the beginning, between and at the end.
func TestMayNotOrder(t *testing.T) {
	for _, l := range [][]api.Mail{
		mail(1, 0, 0, 0), mail(1, 0, 0, 9), mail(0, 1, 0, 0), mail(top, 0, 0, api.MaxDist),
		mail(2, 2, 1, 1, 3, 3, 4, 4), mail(1, 1, 3, 3, 2, 2, 4, 4), mail(1, 1, 2, 2, 4, 4, 3, 3),
		mail(1, 2, 1, 1, 1, 3, 1, 4), mail(1, 1, 1, 3, 1, 2, 1, 4), mail(1, 1, 1, 2, 1, 4, 1, 3),
	} {
		mayNot(t, api.Saved{Mail: l})
	}
}

// P14.1: as many Values as may be, and one more; as much mail, and one more.
func TestMostAndMore(t *testing.T) {
	for _, x := range []api.Value{val(none, none), val(0, 0), val(api.MaxDist, top)} {
		l := slices.Repeat(vals(x), api.MaxVertices+1)
		may(t, api.Saved{Values: l[:api.MaxVertices-1]})
		may(t, api.Saved{Values: l[:api.MaxVertices]})
		mayNot(t, api.Saved{Values: l})
	}
	mayNot(t, api.Saved{Values: slices.Repeat(vals(val(0, 0)), 5000)})
	for _, m := range mail(0, 0, 127, 127, 127, 16383) {
		may(t, api.Saved{Mail: many(api.MaxMail-1, m.To, m.Value)})
		may(t, api.Saved{Mail: many(api.MaxMail, m.To, m.Value)})
		mayNot(t, api.Saved{Mail: many(api.MaxMail+1, m.To, m.Value)})
	}
	mayNot(t, api.Saved{Mail: many(9000, 0, 0)})
	mayNot(t, api.Saved{Mail: many(1<<20, 0, 0)})
	mayNot(t, api.Saved{Values: make([]api.Value, 1<<20)})
	full := api.Saved{Step: api.MaxStep, Phase: 1, Fresh: true, Values: slices.Repeat(vals(val(api.MaxDist, top)), api.MaxVertices), Mail: many(api.MaxMail, 3, 300)}
	may(t, full)
}

// long: saved with a payload of just MaxFrame bytes, if the first piece's Value is one byte.
func long(value int) api.Saved {
	// 6 bytes ahead of the mail, 2 of the first piece, 4 of each other one.
	return api.Saved{Mail: append(mail(0, value), many((api.MaxFrame-8)/4, 0, 16384)...)}
}

// P14.2: a payload of just MaxFrame bytes, and of one more.
func TestEncodeSize(t *testing.T) {
	s := long(127)
	if n := len(payloadOf(s)); n != api.MaxFrame {
		t.Fatalf("the payload has %d bytes", n)
	}
	may(t, s)
	noEncode(t, long(128), api.ErrSize)
	// The same by the Values, and far more.
	s.Values = vals(val(none, none))
	noEncode(t, s, api.ErrSize)
	s.Mail = s.Mail[1:]
	may(t, s)
	noEncode(t, api.Saved{Mail: many(api.MaxMail, top, api.MaxDist)}, api.ErrSize)
	// What may not be saved is told first.
	for _, s := range []api.Saved{long(128), {Mail: many(api.MaxMail, top, api.MaxDist)}} {
		s.Step = -1
		noEncode(t, s, api.ErrState)
		s.Step = 0
		s.Mail = append(s.Mail, s.Mail[0], s.Mail[0])
		noEncode(t, s, api.ErrState)
	}
}

// P14.3: what Unwrap refuses, with the same error, ahead of what is wrong with the payload.
func TestDecodeFrameRefused(t *testing.T) {
	noDecode(t, nil, api.ErrShort)
	noDecode(t, []byte{}, api.ErrShort)
	noDecode(t, []byte{128}, api.ErrShort)
	noDecode(t, []byte{5, 0, 0, 0, 0, 0, 9, 9, 9}, api.ErrShort)
	noDecode(t, []byte{128, 0, 0, 0, 0, 0, 0}, api.ErrForm)
	noDecode(t, []byte{133, 0, 0, 0, 0, 0, 0, 9, 9, 9, 9}, api.ErrForm)
	noDecode(t, []byte{255, 255, 255, 255, 255, 255, 255, 255, 255, 2}, api.ErrOver)
	noDecode(t, []byte{161, 156, 1}, api.ErrSize)
	noDecode(t, append([]byte{161, 156, 1}, make([]byte, api.MaxFrame+9)...), api.ErrSize)
	noDecode(t, []byte{255, 255, 255, 255, 255, 255, 255, 255, 255, 1}, api.ErrSize)
	for _, payload := range [][]byte{{0, 0, 0, 0, 0}, payloadOf(plain()), {9, 9, 9}, {}} {
		b := wrap(t, payload)
		for i := range b {
			noDecode(t, b[:i], api.ErrShort)
		}
		for i := 1; i < len(b); i++ {
			for x := 1; x < 256; x++ {
				c := bytes.Clone(b)
				c[i] ^= byte(x)
				noDecode(t, c, api.ErrSum)
				noDecode(t, append(c, 0), api.ErrSum)
			}
		}
	}
}

// P14.3: something behind the frame.
func TestDecodeBehindFrame(t *testing.T) {
	for _, s := range []api.Saved{{}, plain(), long(127)} {
		b := bytesOf(t, s)
		noDecode(t, append(bytes.Clone(b), 0), api.ErrForm)
		noDecode(t, append(bytes.Clone(b), 128), api.ErrForm)
		noDecode(t, append(bytes.Clone(b), b...), api.ErrForm)
	}
	noDecode(t, append(wrap(t, nil), 0), api.ErrForm)
}

// P14.3: numbers in another form, too great ones and torn ones, at each place; numbers too few and too many.
func TestDecodeNumbers(t *testing.T) {
	for _, s := range []api.Saved{{}, plain(), {Step: 3, Values: vals(val(1, 1))}, {Phase: 1, Mail: mail(0, 1, 2, 3)}} {
		whole := payloadOf(s) // a byte a number
		for i := range whole {
			noForm(t, whole[:i]...)
			noForm(t, whole[i+1:]...)
			for _, n := range [][]byte{
				{128},
				{128 | whole[i], 0},
				{128 | whole[i], 128, 0},
				{255, 255, 255, 255, 255, 255, 255, 255, 255, 2},
				{255, 255, 255, 255, 255, 255, 255, 255, 255, 255, 1},
				{255, 255, 255, 255, 255, 255, 255, 255, 255, 1},       // 2^64 - 1
				{128, 128, 128, 128, 128, 128, 128, 128, 128, 1},       // 2^63
				{129, 128, 128, 128, 128, 128, 128, 128, 128, 1},       // 2^63 + 1
				{255, 255, 255, 255, 255, 255, 255, 255, 127},          // 2^63 - 1
				{128 | whole[i], 128, 128, 128, 128, 128, 128, 128, 1}, // 2^56 more
			} {
				noForm(t, append(bytes.Clone(whole[:i]), n...)...)
				noForm(t, slices.Concat(whole[:i], n, whole[i+1:])...)
			}
			// 2^32 more: some numbers may be as great, others may not.
			asModel(t, slices.Concat(whole[:i], []byte{128 | whole[i], 128, 128, 128, 16}, whole[i+1:]))
		}
		for _, more := range [][]byte{{0}, {1}, {128}, {0, 0}, {1, 1, 1}, whole} {
			noForm(t, slices.Concat(whole, more)...)
		}
	}
}

// P14.3: a flag that is not 0 or 1.
func TestDecodeFlag(t *testing.T) {
	for _, s := range []api.Saved{{}, plain()} {
		payload := payloadOf(s)
		for x := 2; x < 128; x++ {
			payload[2] = byte(x)
			noForm(t, payload...)
		}
		noForm(t, slices.Concat(payload[:2], []byte{129, 1}, payload[3:])...)
		noForm(t, slices.Concat(payload[:2], []byte{128, 2}, payload[3:])...)
	}
}

// P14.3: counts that are not those of what follows: one too few, one too many, far too many.
func TestDecodeCounts(t *testing.T) {
	payload := func(values, mails int) []byte {
		b := binary.AppendUvarint([]byte{0, 0, 0}, uint64(values))
		b = append(b, 5, 5, 5, 5)
		b = binary.AppendUvarint(b, uint64(mails))
		return append(b, 6, 6, 6, 6)
	}
	decodes(t, wrap(t, payload(2, 2)), api.Saved{Values: vals(val(4, 4), val(4, 4)), Mail: mail(6, 6, 6, 6)})
	for _, n := range []int{0, 1, 3, 4, 5, 9, api.MaxVertices, api.MaxVertices + 1, api.MaxMail, api.MaxMail + 1, 1 << 31, 1 << 32, 1<<32 + 2, 1 << 62, math.MaxInt, math.MinInt, math.MinInt + 2, -1} {
		noForm(t, payload(n, 2)...)
		noForm(t, payload(2, n)...)
		noForm(t, payload(n, n)...)
	}
	// As much as the payload has room for, or claims to have.
	room := make([]byte, api.MaxFrame-8)
	for _, n := range []uint64{0, 100, 201, 5001, 9990, 20000, 1 << 40, 1 << 63, math.MaxUint64} {
		noForm(t, append(binary.AppendUvarint([]byte{0, 0, 0}, n), room[:api.MaxFrame-13]...)...)
		noForm(t, append(binary.AppendUvarint([]byte{0, 0, 0, 0}, n), room[:api.MaxFrame-14]...)...)
	}
}

// read a payload number by number: a plain model of Decode asks what comes of it whether it may be saved, and whether it has this very payload.
func read(payload []byte) (s api.Saved, ok bool) {
	rest := payload
	fine := true
	get := func(most int) int {
		n, k := binary.Uvarint(rest)
		if k <= 0 || n > uint64(most) {
			fine = false
			return 0
		}
		rest = rest[k:]
		return int(n)
	}
	s.Step, s.Phase, s.Fresh = get(api.MaxStep), get(1), get(1) == 1
	for range get(api.MaxVertices) {
		a := get(api.MaxDist + 1)
		s.Values = append(s.Values, val(a-1, get(api.MaxVertices)-1))
	}
	for range get(api.MaxMail) {
		to := get(top)
		s.Mail = append(s.Mail, api.Mail{To: to, Value: get(api.MaxDist)})
		if n := len(s.Mail); n > 1 && (s.Mail[n-2].To > to || s.Mail[n-2].To == to && s.Mail[n-2].Value > s.Mail[n-1].Value) {
			fine = false
		}
	}
	if !fine || len(rest) > 0 || !bytes.Equal(payloadOf(s), payload) {
		return api.Saved{}, false
	}
	return s, true
}

// asModel: Decode tells of a whole frame with this payload what the plain model tells.
func asModel(t *testing.T, payload []byte) {
	t.Helper()
	if want, ok := read(payload); ok {
		decodes(t, wrap(t, payload), want)
	} else {
		noForm(t, payload...)
	}
}

// die: numbers that look drawn, the same each time.
type die uint64

func (d *die) n(most int) int {
	*d = *d*6364136223846793005 + 1442695040888963407
	return int(uint64(*d>>33) % uint64(most))
}

// near: a number from least to most, often one of them.
func (d *die) near(least, most int) int {
	switch d.n(4) {
	case 0:
		return least
	case 1:
		return most
	}
	return least + d.n(min(most-least, 300)+1)
}

// saved: one that may be, with at most so many values and so much mail.
func (d *die) saved(values, mails int) api.Saved {
	s := api.Saved{Step: d.near(0, api.MaxStep), Phase: d.n(2), Fresh: d.n(2) == 0}
	for range d.n(values + 1) {
		s.Values = append(s.Values, val(d.near(none, api.MaxDist), d.near(none, top)))
	}
	for range d.n(mails + 1) {
		s.Mail = append(s.Mail, api.Mail{To: d.near(0, top), Value: d.near(0, api.MaxDist)})
	}
	slices.SortFunc(s.Mail, func(a, b api.Mail) int {
		if a.To != b.To {
			return a.To - b.To
		}
		return a.Value - b.Value
	})
	return s
}

// P14.3: all short payloads of small numbers, and each byte laid into, put into and taken from a payload, as a plain model tells.
func TestDecodeAsModel(t *testing.T) {
	for size := range 10 {
		payload := make([]byte, size)
		for {
			asModel(t, payload)
			i := 0
			for i < size && payload[i] == 2 {
				payload[i] = 0
				i++
			}
			if i == size {
				break
			}
			payload[i]++
		}
	}
	d := die(3)
	for range 25 {
		payload := payloadOf(d.saved(3, 4))
		for i := range payload {
			for x := range 256 {
				c := bytes.Clone(payload)
				c[i] = byte(x)
				asModel(t, c)
			}
			asModel(t, slices.Delete(bytes.Clone(payload), i, i+1))
			asModel(t, slices.Insert(bytes.Clone(payload), i, byte(d.n(3))))
			asModel(t, slices.Insert(bytes.Clone(payload), i, byte(128+d.n(128))))
		}
	}
}

// P14.2, P14.3: drawn ones: the bytes are as put together by hand, and what was encoded is had again.
func TestDrawn(t *testing.T) {
	d := die(1)
	for range 600 {
		may(t, d.saved(20, 40))
	}
	for range 20 {
		may(t, d.saved(api.MaxVertices, 1500))
	}
}

// file: a file with that name and these bytes, of which the first so many are synced.
func file(name, data string, synced int) api.File {
	return api.File{Name: name, Data: []byte(data), Synced: synced}
}

func diskOf(l ...api.File) api.Disk { return api.Disk{Files: l} }

// filler: so many files with two bytes each, one of them synced: f0, f1 and so on.
func filler(n int) api.Disk {
	var d api.Disk
	for i := range n {
		d.Files = append(d.Files, file(fmt.Sprint("f", i), "xy", 1))
	}
	return d
}

// holding: a file in which this is saved, all of it synced.
func holding(t *testing.T, name string, s api.Saved) api.File {
	t.Helper()
	b := bytesOf(t, s)
	return api.File{Name: name, Data: b, Synced: len(b)}
}

// written: a file in which this is saved, nothing of it synced.
func written(t *testing.T, name string, s api.Saved) api.File {
	t.Helper()
	f := holding(t, name, s)
	f.Synced = 0
	return f
}

// wrongDisks: each breaks one rule of P3.1; the slots and the file that is written are there, and whole.
func wrongDisks(t *testing.T) map[string]api.Disk {
	whole := []api.File{holding(t, "save-0", at(1)), holding(t, "save-1", at(2)), holding(t, nextFile, at(3))}
	fullest := strings.Repeat("d", api.MaxBytes)
	m := map[string]api.Disk{
		"files too many":   filler(api.MaxFiles + 1),
		"slots and others": {Files: slices.Concat(whole, filler(api.MaxFiles-2).Files)},
	}
	for what, f := range map[string]api.File{
		"no name":                 file("", "1", 0),
		"a name too long":         file(strings.Repeat("n", api.MaxName+1), "1", 0),
		"a byte too many":         file("b", fullest+"d", 0),
		"Synced -1":               file("b", "1", -1),
		"Synced one too many":     file("b", "1", 2),
		"Synced most":             file("b", "1", math.MaxInt),
		"the file written, twice": file(nextFile, "1", 0),
		"the slot 0, twice":       holding(t, "save-0", at(9)),
		"the slot 1, twice":       holding(t, "save-1", at(9)),
	} {
		m[what+", first"] = api.Disk{Files: slices.Concat([]api.File{f}, whole)}
		m[what+", last"] = api.Disk{Files: slices.Concat(whole, []api.File{f})}
	}
	for i := range whole {
		d := api.Disk{Files: slices.Clone(whole)}
		d.Files[i].Synced++
		m["Synced above "+whole[i].Name] = d
	}
	return m
}

// noSlots: numbers that are no slot.
func noSlots() []int {
	return []int{-1, -2, 2, 3, 10, 256, 1 << 32, 1<<32 + 1, math.MinInt, math.MinInt + 1, math.MaxInt}
}

func puts(t *testing.T, d api.Disk, s api.Saved, want api.Disk) {
	t.Helper()
	if got, e := Put(d, s); e != api.OK || !sameDisk(got, want) {
		t.Errorf("Put %s %s = %s %d, want %s", tell(d), tell(s), tell(got), e, tell(want))
	}
}

func noPut(t *testing.T, d api.Disk, s api.Saved, want api.Errno) {
	t.Helper()
	if got, e := Put(d, s); e != want || len(got.Files) != 0 {
		t.Errorf("Put %s %s = %s %d, want none, %d", tell(d), tell(s), tell(got), e, want)
	}
}

func seals(t *testing.T, d api.Disk, n int, want api.Disk) {
	t.Helper()
	if got, e := Seal(d, n); e != api.OK || !sameDisk(got, want) {
		t.Errorf("Seal %s %d = %s %d, want %s", tell(d), n, tell(got), e, tell(want))
	}
}

func noSeal(t *testing.T, d api.Disk, n int, want api.Errno) {
	t.Helper()
	if got, e := Seal(d, n); e != want || len(got.Files) != 0 {
		t.Errorf("Seal %s %d = %s %d, want none, %d", tell(d), n, tell(got), e, want)
	}
}

func loads(t *testing.T, d api.Disk, n int, want api.Saved) {
	t.Helper()
	if got, e := Load(d, n); e != api.OK || !same(got, want) {
		t.Errorf("Load %s %d = %s %d, want %s", tell(d), n, tell(got), e, tell(want))
	}
}

func noLoad(t *testing.T, d api.Disk, n int, want api.Errno) {
	t.Helper()
	if got, e := Load(d, n); e != want || !zero(got) {
		t.Errorf("Load %s %d = %s %d, want nothing, %d", tell(d), n, tell(got), e, want)
	}
}

func newestIs(t *testing.T, d api.Disk, most int, want api.Saved) {
	t.Helper()
	if got, e := Newest(d, most); e != api.OK || !same(got, want) {
		t.Errorf("Newest %s %d = %s %d, want %s", tell(d), most, tell(got), e, tell(want))
	}
}

func noNewest(t *testing.T, d api.Disk, most int, want api.Errno) {
	t.Helper()
	if got, e := Newest(d, most); e != want || !zero(got) {
		t.Errorf("Newest %s %d = %s %d, want nothing, %d", tell(d), most, tell(got), e, want)
	}
}

// P14.5: a new file behind the others, with nothing synced.
func TestPut(t *testing.T) {
	made := written(t, nextFile, plain())
	puts(t, api.Disk{}, plain(), diskOf(made))
	puts(t, api.Disk{Files: []api.File{}}, plain(), diskOf(made))
	puts(t, api.Disk{}, api.Saved{}, diskOf(written(t, nextFile, api.Saved{})))
	puts(t, api.Disk{}, long(127), diskOf(written(t, nextFile, long(127))))
	a, b := file("a", "123", 1), file("Next", "", 0)
	zero, one := holding(t, "save-0", at(4)), file("save-1", "torn", 2)
	puts(t, diskOf(a), plain(), diskOf(a, made))
	puts(t, diskOf(zero, a, one, b), plain(), diskOf(zero, a, one, b, made))
	puts(t, diskOf(file("next ", "1", 0), file("nex", "2", 1)), plain(), diskOf(file("next ", "1", 0), file("nex", "2", 1), made))
}

// P14.5: a file of that name is removed first, wherever it stands and however much of it is synced.
func TestPutOver(t *testing.T) {
	made := written(t, nextFile, plain())
	a, b := file("a", "123", 1), holding(t, "save-1", at(4))
	for _, old := range []api.File{
		file(nextFile, "", 0), file(nextFile, "1", 0), file(nextFile, "123456789", 5), file(nextFile, "123", 3),
		holding(t, nextFile, plain()), written(t, nextFile, plain()), holding(t, nextFile, long(127)),
		file(nextFile, strings.Repeat("d", api.MaxBytes), 9),
	} {
		puts(t, diskOf(old), plain(), diskOf(made))
		puts(t, diskOf(old, a, b), plain(), diskOf(a, b, made))
		puts(t, diskOf(a, old, b), plain(), diskOf(a, b, made))
		puts(t, diskOf(a, b, old), plain(), diskOf(a, b, made))
	}
}

// P14.5: a disk with as many files as may be, the file that is written among them or not.
func TestPutFull(t *testing.T) {
	made := written(t, nextFile, plain())
	puts(t, filler(api.MaxFiles-1), plain(), diskOf(append(filler(api.MaxFiles-1).Files, made)...))
	noPut(t, filler(api.MaxFiles), plain(), api.ErrFull)
	for _, i := range []int{0, 1, api.MaxFiles / 2, api.MaxFiles - 1} {
		d := filler(api.MaxFiles)
		d.Files[i].Name = nextFile
		want := slices.Delete(filler(api.MaxFiles).Files, i, i+1)
		puts(t, d, plain(), diskOf(append(want, made)...))
	}
}

// P14.5: what is refused, in its order: what may not be saved and what is too long, whatever the disk is; then the disk.
func TestPutRefuses(t *testing.T) {
	for what, d := range wrongDisks(t) {
		noPut(t, d, plain(), api.ErrState)
		noPut(t, d, api.Saved{}, api.ErrState)
		noPut(t, d, api.Saved{Step: -1}, api.ErrState)
		noPut(t, d, long(128), api.ErrSize)
		if t.Failed() {
			t.Fatal(what)
		}
	}
	noPut(t, filler(api.MaxFiles), long(128), api.ErrSize)
	noPut(t, filler(api.MaxFiles), api.Saved{Phase: 2}, api.ErrState)
	noPut(t, api.Disk{}, long(128), api.ErrSize)
	noPut(t, api.Disk{}, api.Saved{Phase: 2}, api.ErrState)
}

// P14.6: the slot there already and not, ahead of the file that is written and behind it.
func TestSeal(t *testing.T) {
	a := file("a", "123", 1)
	for n, name := range []string{"save-0", "save-1"} {
		was, synced, done := written(t, nextFile, plain()), holding(t, nextFile, plain()), holding(t, name, plain())
		old := holding(t, name, at(2))
		other := written(t, []string{"save-1", "save-0"}[n], at(3))
		half := was
		half.Synced = len(half.Data) / 2
		for _, f := range []api.File{was, half, synced} {
			seals(t, diskOf(f), n, diskOf(done))
			seals(t, diskOf(a, f), n, diskOf(a, done))
			seals(t, diskOf(f, a), n, diskOf(done, a))
			seals(t, diskOf(old, f), n, diskOf(done))
			seals(t, diskOf(f, old), n, diskOf(done))
			seals(t, diskOf(a, old, other, f), n, diskOf(a, other, done))
			seals(t, diskOf(f, other, old, a), n, diskOf(done, other, a))
			seals(t, diskOf(other, f, old), n, diskOf(other, done))
		}
		full := filler(api.MaxFiles)
		full.Files[3] = was
		want := filler(api.MaxFiles)
		want.Files[3] = done
		seals(t, full, n, want)
	}
}

// P14.6: what the file holds is not asked.
func TestSealAnything(t *testing.T) {
	for _, data := range []string{"", "1", "no frame", strings.Repeat("d", api.MaxBytes)} {
		seals(t, diskOf(file(nextFile, data, 0)), 0, diskOf(file("save-0", data, len(data))))
		seals(t, diskOf(file(nextFile, data, 0), file("save-1", "old", 1)), 1, diskOf(file("save-1", data, len(data))))
	}
}

// P14.6: a slot that there is not, ahead of a disk that may not be and of a file that is not there.
func TestSealRefuses(t *testing.T) {
	right := []api.Disk{{}, diskOf(written(t, nextFile, plain())), filler(api.MaxFiles)}
	for _, n := range noSlots() {
		for _, d := range right {
			noSeal(t, d, n, api.ErrRange)
		}
		for _, d := range wrongDisks(t) {
			noSeal(t, d, n, api.ErrRange)
		}
	}
	for n := range 2 {
		for _, d := range wrongDisks(t) {
			noSeal(t, d, n, api.ErrState)
		}
		for _, d := range []api.Disk{{}, filler(api.MaxFiles), diskOf(holding(t, "save-0", at(1)), holding(t, "save-1", at(2))), diskOf(file("Next", "1", 0), file("next ", "1", 0), file("nex", "1", 0))} {
			noSeal(t, d, n, api.ErrNone)
		}
	}
}

// P14.7
func TestLoad(t *testing.T) {
	a := file("a", "123", 1)
	d := diskOf(holding(t, nextFile, at(9)), holding(t, "save-1", at(2)), a, holding(t, "save-0", plain()))
	loads(t, d, 0, plain())
	loads(t, d, 1, at(2))
	// How much is synced is not asked.
	loads(t, diskOf(written(t, "save-0", at(3))), 0, at(3))
	loads(t, diskOf(a, written(t, "save-1", api.Saved{})), 1, api.Saved{})
	loads(t, diskOf(holding(t, "save-1", long(127))), 1, long(127))
	full := filler(api.MaxFiles)
	full.Files[api.MaxFiles-1] = holding(t, "save-0", plain())
	loads(t, full, 0, plain())
	noLoad(t, full, 1, api.ErrNone)
}

// P14.7: a slot that is not there, whatever else is.
func TestLoadNone(t *testing.T) {
	for n, name := range []string{"save-0", "save-1"} {
		other := []string{"save-1", "save-0"}[n]
		noLoad(t, api.Disk{}, n, api.ErrNone)
		noLoad(t, filler(api.MaxFiles), n, api.ErrNone)
		noLoad(t, diskOf(holding(t, nextFile, at(1)), holding(t, other, at(2))), n, api.ErrNone)
		noLoad(t, diskOf(holding(t, name+"0", at(1)), holding(t, "Save-0", at(2)), holding(t, "save", at(2)), holding(t, "save-", at(2)), holding(t, "save-2", at(2))), n, api.ErrNone)
	}
}

// P14.7: a slot with other bytes: what Decode refuses of all of them, with the same error.
func TestLoadOther(t *testing.T) {
	whole := string(bytesOf(t, plain()))
	for n, name := range []string{"save-0", "save-1"} {
		for _, c := range []struct {
			data string
			want api.Errno
		}{
			{"", api.ErrShort}, {"\x80", api.ErrShort}, {whole[:1], api.ErrShort}, {whole[:len(whole)-1], api.ErrShort},
			{"\x80\x00", api.ErrForm}, {whole + "\x00", api.ErrForm}, {whole + whole, api.ErrForm},
			{strings.Repeat("\xff", 9) + "\x02", api.ErrOver}, {"\xa1\x9c\x01", api.ErrSize},
			{whole[:len(whole)-1] + string([]byte{whole[len(whole)-1] ^ 1}), api.ErrSum},
			{string(wrap(t, nil)), api.ErrForm}, {string(wrap(t, []byte{0, 2, 0, 0, 0})), api.ErrForm},
			{strings.Repeat("\x00", api.MaxBytes), api.ErrSum}, {strings.Repeat("\xff", api.MaxBytes), api.ErrOver},
		} {
			for _, synced := range []int{0, len(c.data) / 2, len(c.data)} {
				noLoad(t, diskOf(holding(t, nextFile, at(1)), file(name, c.data, synced)), n, c.want)
			}
		}
	}
}

// P14.7: a slot that there is not, ahead of all else; then a disk that may not be.
func TestLoadRefuses(t *testing.T) {
	wrong := wrongDisks(t)
	for _, n := range noSlots() {
		noLoad(t, api.Disk{}, n, api.ErrRange)
		noLoad(t, diskOf(holding(t, "save-0", at(1)), holding(t, "save-1", at(1)), holding(t, fmt.Sprintf("%.20s", fmt.Sprint("save-", n)), at(1))), n, api.ErrRange)
		for _, d := range wrong {
			noLoad(t, d, n, api.ErrRange)
		}
	}
	for n := range 2 {
		for _, d := range wrong {
			noLoad(t, d, n, api.ErrState)
		}
	}
}

// P14.8: the greater Step of those that are at most most.
func TestNewest(t *testing.T) {
	for zero := range 5 {
		for one := range 5 {
			s, r := at(zero), at(one)
			s.Fresh = true // so that the slots differ where their Steps do not
			for _, d := range []api.Disk{
				diskOf(holding(t, "save-0", s), holding(t, "save-1", r)),
				diskOf(holding(t, nextFile, at(7)), written(t, "save-1", r), file("a", "1", 0), written(t, "save-0", s)),
			} {
				for most := -2; most < 7; most++ {
					switch {
					case zero <= most && (zero >= one || one > most):
						newestIs(t, d, most, s)
					case one <= most:
						newestIs(t, d, most, r)
					default:
						noNewest(t, d, most, api.ErrNone)
					}
				}
				newestIs(t, d, math.MaxInt, []api.Saved{s, r}[max(one-zero, 0)/max(one-zero, 1)])
				noNewest(t, d, math.MinInt, api.ErrNone)
			}
		}
	}
}

// P14.8: one slot alone; most just its Step, one below and one above.
func TestNewestOfOne(t *testing.T) {
	for _, name := range []string{"save-0", "save-1"} {
		for _, step := range []int{0, 1, 5, api.MaxStep} {
			d := diskOf(file("a", "1", 0), holding(t, name, at(step)), holding(t, nextFile, at(0)))
			newestIs(t, d, step, at(step))
			newestIs(t, d, step+1, at(step))
			newestIs(t, d, math.MaxInt, at(step))
			noNewest(t, d, step-1, api.ErrNone)
			noNewest(t, d, -1, api.ErrNone)
			noNewest(t, d, math.MinInt, api.ErrNone)
		}
	}
}

// P14.8: slots that Load does not take are none, each way, and do not hide the other one.
func TestNewestOther(t *testing.T) {
	whole := string(bytesOf(t, at(8)))
	for _, data := range []string{
		"", "\x80", "\x80\x00", whole[:1], whole[:len(whole)-1], whole + "\x00", whole[:len(whole)-1] + string([]byte{whole[len(whole)-1] ^ 1}),
		strings.Repeat("\xff", 9) + "\x02", "\xa1\x9c\x01", string(wrap(t, []byte{8, 2, 0, 0, 0})),
	} {
		for n, name := range []string{"save-0", "save-1"} {
			other := []string{"save-1", "save-0"}[n]
			bad := file(name, data, len(data)/2)
			noNewest(t, diskOf(bad), math.MaxInt, api.ErrNone)
			noNewest(t, diskOf(bad, holding(t, nextFile, at(1))), math.MaxInt, api.ErrNone)
			noNewest(t, diskOf(bad, file(other, data, 0)), math.MaxInt, api.ErrNone)
			newestIs(t, diskOf(bad, holding(t, other, at(3))), 3, at(3))
			newestIs(t, diskOf(holding(t, other, at(0)), bad), math.MaxInt, at(0))
			noNewest(t, diskOf(holding(t, other, at(3)), bad), 2, api.ErrNone)
		}
	}
}

// P14.8: what is refused: a disk that may not be, ahead of all else; then that there is none.
func TestNewestRefuses(t *testing.T) {
	for _, most := range []int{math.MinInt, -1, 0, 5, api.MaxStep, math.MaxInt} {
		for _, d := range wrongDisks(t) {
			noNewest(t, d, most, api.ErrState)
		}
		for _, d := range []api.Disk{{}, filler(api.MaxFiles), diskOf(holding(t, nextFile, at(0))), diskOf(holding(t, "save-2", at(0)), holding(t, "save-", at(0)))} {
			noNewest(t, d, most, api.ErrNone)
		}
	}
}

// What comes of it: what was sealed is found behind every crash; what was put is not taken for whole, however much of it a crash leaves.
func TestCrashes(t *testing.T) {
	d := diskOf(file("a", "123", 1))
	sealed := []api.Saved{at(4), at(5)}
	for n, s := range sealed {
		put, _ := Put(d, s)
		d, _ = Seal(put, n)
	}
	put, e := Put(d, plain())
	if e != api.OK {
		t.Fatalf("Put: %d", e)
	}
	whole := len(bytesOf(t, plain()))
	for keep := range whole + 3 {
		for n := range 2 {
			loads(t, put, n, sealed[n])
			left, e := disk.Crash(put, keep)
			if e != api.OK {
				t.Fatalf("Crash: %d", e)
			}
			loads(t, left, 0, sealed[0])
			loads(t, left, 1, sealed[1])
			newestIs(t, left, 9, sealed[1])
			// Put again as if nothing had been.
			again, e := Put(left, at(6))
			if e != api.OK || !bytes.Equal(again.Files[len(again.Files)-1].Data, bytesOf(t, at(6))) {
				t.Errorf("Put behind a crash with keep %d: %s %d", keep, tell(again), e)
			}
			// Sealed though it is torn, it is found out.
			torn, e := Seal(left, n)
			if e != api.OK {
				t.Fatalf("Seal: %d", e)
			}
			loads(t, torn, 1-n, sealed[1-n])
			if keep < whole {
				noLoad(t, torn, n, api.ErrShort)
				newestIs(t, torn, 9, sealed[1-n])
			} else {
				loads(t, torn, n, plain())
				newestIs(t, torn, 9, plain())
			}
		}
	}
}

// What comes of it: long rows of drawn saves, crashes and looks, beside a model that knows what each slot holds.
func TestDrawnSaves(t *testing.T) {
	for seed := range 30 {
		r := die(seed)
		var d api.Disk
		var held [2]*api.Saved
		for range 120 {
			s := r.saved(5, 9)
			s.Step = r.n(12)
			put, e := Put(d, s)
			if e != api.OK {
				t.Fatalf("Put %s %s: %d", tell(d), tell(s), e)
			}
			d = put
			if r.n(3) > 0 {
				n := r.n(2)
				if d, e = Seal(d, n); e != api.OK {
					t.Fatalf("Seal %s %d: %d", tell(put), n, e)
				}
				held[n] = &s
			}
			if r.n(2) == 0 {
				d, _ = disk.Crash(d, r.n(60))
			}
			asHeld(t, d, held, r.n(14)-1)
		}
	}
}

// asHeld: Load and Newest tell what the slots hold.
func asHeld(t *testing.T, d api.Disk, held [2]*api.Saved, most int) {
	t.Helper()
	var newest *api.Saved
	for n, s := range held {
		if s == nil {
			noLoad(t, d, n, api.ErrNone)
			continue
		}
		loads(t, d, n, *s)
		if s.Step <= most && (newest == nil || newest.Step < s.Step) {
			newest = s
		}
	}
	if newest == nil {
		noNewest(t, d, most, api.ErrNone)
	} else {
		newestIs(t, d, most, *newest)
	}
}

// roomy: what is saved, with spare room behind its lists in which marks stand.
func roomy() api.Saved {
	s := plain()
	s.Values = append(make([]api.Value, 0, 8), s.Values...)
	s.Mail = append(make([]api.Mail, 0, 8), s.Mail...)
	spoil(s.Values[len(s.Values):], val(-9, -9))
	spoil(s.Mail[len(s.Mail):], api.Mail{To: -9, Value: -9})
	return s
}

// spoil writes over a list and over its spare room.
func spoil[T any](l []T, with T) {
	l = l[:cap(l)]
	for i := range l {
		l[i] = with
	}
}

// roomyDisk: a disk with spare room behind its files and their bytes, in which marks stand.
func roomyDisk(t *testing.T) api.Disk {
	t.Helper()
	l := make([]api.File, 0, 8)
	for _, f := range []api.File{holding(t, "save-1", at(2)), written(t, nextFile, plain()), holding(t, "save-0", at(3)), file("a", "12", 1)} {
		f.Data = append(make([]byte, 0, 99), f.Data...)
		spoil(f.Data[len(f.Data):], 99)
		l = append(l, f)
	}
	spoil(l[len(l):], file("spare", "spare", 99))
	return api.Disk{Files: l}
}

// memory: all that lists hold, their spare room too, as one text.
func memory(d api.Disk, s api.Saved) string {
	text := fmt.Sprintln(s, s.Values[:cap(s.Values)], s.Mail[:cap(s.Mail)])
	for _, f := range d.Files[:cap(d.Files)] {
		text += fmt.Sprintln(f.Name, f.Data[:cap(f.Data)], len(f.Data), f.Synced)
	}
	return text
}

// No argument is changed, its spare room neither, whether the call is taken or refused.
func TestArgumentsStay(t *testing.T) {
	d, s := roomyDisk(t), roomy()
	was := memory(d, s)
	wrong := s
	wrong.Step = -1
	for i, run := range []func(){
		func() { Encode(s) }, func() { Encode(wrong) }, func() { Put(d, s) }, func() { Put(d, wrong) },
		func() { Seal(d, 0) }, func() { Seal(d, 1) }, func() { Seal(d, 2) },
		func() { Load(d, 0) }, func() { Load(d, 1) }, func() { Load(d, 2) },
		func() { Newest(d, 9) }, func() { Newest(d, 2) }, func() { Newest(d, 0) },
		func() { Decode(d.Files[0].Data) }, func() { Decode(d.Files[0].Data[:9]) }, func() { Decode(d.Files[3].Data) },
	} {
		run()
		if now := memory(d, s); now != was {
			t.Errorf("call %d: what was handed in is %s, was %s", i, tell(now), tell(was))
		}
	}
}

// spoilDisk writes over a disk's lists and over their spare room.
func spoilDisk(d api.Disk) {
	for _, f := range d.Files {
		spoil(f.Data, 77)
	}
	spoil(d.Files, file("spoilt", "spoilt", 77))
}

// spoilSaved writes over the lists of what is saved and over their spare room.
func spoilSaved(s api.Saved) {
	spoil(s.Values, val(-7, -7))
	spoil(s.Mail, api.Mail{To: -7, Value: -7})
}

// What is answered is new memory: it stays as it is when the arguments are written over, and they when it is.
func TestAnswersAreNew(t *testing.T) {
	for i, run := range []func(d api.Disk, s api.Saved) any{
		func(d api.Disk, s api.Saved) any { b, _ := Encode(s); return b },
		func(d api.Disk, s api.Saved) any { r, _ := Decode(d.Files[0].Data); return r },
		func(d api.Disk, s api.Saved) any { r, _ := Put(d, s); return r },
		func(d api.Disk, s api.Saved) any { r, _ := Put(api.Disk{Files: d.Files[2:]}, s); return r },
		func(d api.Disk, s api.Saved) any { r, _ := Seal(d, 0); return r },
		func(d api.Disk, s api.Saved) any { r, _ := Seal(d, 1); return r },
		func(d api.Disk, s api.Saved) any { r, _ := Load(d, 0); return r },
		func(d api.Disk, s api.Saved) any { r, _ := Newest(d, 9); return r },
	} {
		d, s := roomyDisk(t), roomy()
		was := memory(d, s)
		got, other := run(d, s), run(d, s)
		answer := fmt.Sprint(got)
		switch x := other.(type) {
		case []byte:
			spoil(x, 77)
		case api.Disk:
			spoilDisk(x)
		case api.Saved:
			spoilSaved(x)
		}
		if now := memory(d, s); now != was {
			t.Errorf("call %d: an answer was written over, and what was handed in is %s, was %s", i, tell(now), tell(was))
		}
		spoilSaved(s)
		spoilDisk(d)
		if now := fmt.Sprint(got); now != answer {
			t.Errorf("call %d: the answer is %s, was %s", i, tell(now), tell(answer))
		}
	}
}

// No two lists of one answer share any memory.
func TestListsShareNothing(t *testing.T) {
	for i, run := range []func(d api.Disk) api.Disk{
		func(d api.Disk) api.Disk { r, _ := Put(d, plain()); return r },
		func(d api.Disk) api.Disk { r, _ := Seal(d, 0); return r },
		func(d api.Disk) api.Disk { r, _ := Seal(d, 1); return r },
	} {
		want := run(roomyDisk(t))
		for at := range want.Files {
			got := run(roomyDisk(t))
			spoil(got.Files[at].Data, 77)
			got.Files[at] = want.Files[at]
			if !sameDisk(got, want) {
				t.Errorf("call %d: the file %d was written over, and there is %s, want %s", i, at, tell(got), tell(want))
			}
		}
	}
}
