package frame

import (
	"bytes"
	"encoding/binary"
	"hash/crc32"
	"slices"
	"testing"

	"paceline/api"
	"paceline/varint"
)

// join lays bytes one behind the other.
func join(l ...[]byte) []byte { return bytes.Join(l, nil) }

// drawn: so many bytes that look drawn, the same each time.
func drawn(n int) []byte {
	b := make([]byte, n)
	x := uint32(n + 1)
	for i := range b {
		x = x*1664525 + 1013904223
		b[i] = byte(x >> 24)
	}
	return b
}

// sealed lays the sum that the library tells behind bytes.
func sealed(b []byte) []byte {
	return binary.LittleEndian.AppendUint32(bytes.Clone(b), crc32.ChecksumIEEE(b))
}

// framed says P2.2 once more, by the library alone.
func framed(b []byte) []byte {
	return sealed(append(binary.AppendUvarint(nil, uint64(len(b))), b...))
}

// payloads: lengths at which the length's bytes change, and the limit.
func payloads() [][]byte {
	l := [][]byte{nil, {0}, {255}, []byte("123456789")}
	for _, n := range []int{2, 127, 128, 129, 300, 16383, 16384, api.MaxFrame - 1, api.MaxFrame} {
		l = append(l, drawn(n))
	}
	return l
}

// P2.1
func TestSum(t *testing.T) {
	for _, c := range []struct {
		b    []byte
		want uint32
	}{
		{nil, 0},
		{[]byte{}, 0},
		{[]byte{0}, 0xD202EF8D},
		{[]byte{255}, 0xFF000000},
		{[]byte{0, 0, 0, 0}, 0x2144DF1C},
		{[]byte{255, 255, 255, 255}, 0xFFFFFFFF},
		{[]byte("a"), 0xE8B7BE43},
		{[]byte("123456789"), 0xCBF43926},
	} {
		if got := Sum(c.b); got != c.want {
			t.Errorf("Sum(%v) = %X, want %X", c.b, got, c.want)
		}
	}
}

// sumByBits says P2.1 once more, bit by bit.
func sumByBits(b []byte) uint32 {
	r := ^uint32(0)
	for _, x := range b {
		r ^= uint32(x)
		for range 8 {
			if r%2 == 1 {
				r = r/2 ^ 0xEDB88320
			} else {
				r /= 2
			}
		}
	}
	return ^r
}

// P2.1: every byte alone and behind another one, and long rows.
func TestSumIsThatOfTheBits(t *testing.T) {
	rows := payloads()
	for x := range 256 {
		rows = append(rows, []byte{byte(x)}, []byte{17, byte(x)}, []byte{byte(x), byte(x), 3})
	}
	rows = append(rows, drawn(api.MaxBytes))
	for _, b := range rows {
		got := Sum(b)
		if want := sumByBits(b); got != want {
			t.Errorf("the sum of %d bytes is %X, want %X", len(b), got, want)
		}
		if want := crc32.ChecksumIEEE(b); got != want {
			t.Errorf("the sum of %d bytes is %X, the library says %X", len(b), got, want)
		}
	}
}

// P2.2
func TestWrap(t *testing.T) {
	for _, c := range []struct{ b, want []byte }{
		{nil, []byte{0, 141, 239, 2, 210}},
		{[]byte{}, []byte{0, 141, 239, 2, 210}},
		{[]byte{7}, sealed([]byte{1, 7})},
		{[]byte("abc"), sealed([]byte("\x03abc"))},
		{drawn(127), sealed(join([]byte{127}, drawn(127)))},
		{drawn(128), sealed(join([]byte{128, 1}, drawn(128)))},
		{drawn(300), sealed(join([]byte{172, 2}, drawn(300)))},
		{drawn(api.MaxFrame), sealed(join([]byte{160, 156, 1}, drawn(api.MaxFrame)))},
	} {
		got, e := Wrap(c.b)
		if !bytes.Equal(got, c.want) || e != api.OK {
			t.Errorf("Wrap of %d bytes = %v %d, want %v", len(c.b), got, e, c.want)
		}
	}
}

// P2.2: its one error.
func TestWrapRefuses(t *testing.T) {
	for _, n := range []int{api.MaxFrame + 1, api.MaxFrame + 128, api.MaxBytes} {
		if got, e := Wrap(drawn(n)); len(got) != 0 || e != api.ErrSize {
			t.Errorf("Wrap of %d bytes = %v %d, want %d", n, got, e, api.ErrSize)
		}
	}
}

type unwrapCase struct {
	b       []byte
	payload []byte
	used    int
	e       api.Errno
}

func (c unwrapCase) check(t *testing.T) {
	t.Helper()
	payload, used, e := Unwrap(c.b)
	if !bytes.Equal(payload, c.payload) || used != c.used || e != c.e {
		t.Errorf("Unwrap(%v) = %v %d %d, want %v %d %d", c.b, payload, used, e, c.payload, c.used, c.e)
	}
}

// P2.3: the frame alone, and with bytes behind it.
func TestUnwrap(t *testing.T) {
	unwrapCase{[]byte{0, 141, 239, 2, 210}, nil, 5, api.OK}.check(t)
	unwrapCase{[]byte{0, 141, 239, 2, 210, 0}, nil, 5, api.OK}.check(t)
	for _, b := range payloads() {
		f := framed(b)
		unwrapCase{f, b, len(f), api.OK}.check(t)
		unwrapCase{join(f, []byte{128, 0}), b, len(f), api.OK}.check(t)
		unwrapCase{join(f, f, f), b, len(f), api.OK}.check(t)
	}
}

// P2.3: what Get refuses of the length, ahead of all else.
func TestUnwrapRefusesWhatGetRefuses(t *testing.T) {
	nine := bytes.Repeat([]byte{255}, 9)
	for _, c := range []unwrapCase{
		{nil, nil, 0, api.ErrShort},
		{[]byte{}, nil, 0, api.ErrShort},
		{[]byte{128}, nil, 0, api.ErrShort},
		{[]byte{255, 255, 255}, nil, 0, api.ErrShort},
		{nine, nil, 0, api.ErrShort},
		{[]byte{128, 0}, nil, 0, api.ErrForm},
		{sealed([]byte{128, 0}), nil, 0, api.ErrForm},
		{sealed([]byte{129, 0, 7}), nil, 0, api.ErrForm},
		{join(nine, []byte{0}), nil, 0, api.ErrForm}, // and the length would be above MaxFrame
		{join(nine, []byte{2}), nil, 0, api.ErrOver},
		{bytes.Repeat([]byte{128}, 20), nil, 0, api.ErrOver},
	} {
		c.check(t)
	}
}

// P2.3: a length above MaxFrame is told ahead of bytes that end and of the sum.
func TestUnwrapRefusesGreatLengths(t *testing.T) {
	over := join(varint.Put(api.MaxFrame+1), drawn(api.MaxFrame+1))
	for _, c := range []unwrapCase{
		{[]byte{161, 156, 1}, nil, 0, api.ErrSize},
		{[]byte{161, 156, 1, 2, 3, 4, 5}, nil, 0, api.ErrSize},
		{sealed(over), nil, 0, api.ErrSize},
		{join(over, []byte{1, 2, 3, 4}), nil, 0, api.ErrSize},
		{varint.Put(1 << 32), nil, 0, api.ErrSize},
		{sealed(varint.Put(1 << 32)), nil, 0, api.ErrSize}, // 0, if 32 bits of it were looked at
		{sealed(varint.Put(1<<63 - 1)), nil, 0, api.ErrSize},
		{sealed(varint.Put(1 << 63)), nil, 0, api.ErrSize},
		{sealed(varint.Put(1<<64 - 1)), nil, 0, api.ErrSize}, // -1, if it had a sign
		{sealed(varint.Put(1<<64 - 10)), nil, 0, api.ErrSize},
	} {
		c.check(t)
	}
}

// P2.3: bytes that end before the frame does, at the limit and just ahead of the end, too.
func TestUnwrapRefusesTornFrames(t *testing.T) {
	for _, b := range [][]byte{nil, {0}, drawn(9), drawn(127), drawn(128), drawn(300)} {
		f := framed(b)
		for cut := range f {
			unwrapCase{f[:cut], nil, 0, api.ErrShort}.check(t)
		}
	}
	f := framed(drawn(api.MaxFrame))
	for _, cut := range []int{1, 2, 3, 4, 5, len(f) / 2, len(f) - 5, len(f) - 4, len(f) - 3, len(f) - 2, len(f) - 1} {
		unwrapCase{f[:cut], nil, 0, api.ErrShort}.check(t)
	}
	unwrapCase{[]byte{160, 156, 1}, nil, 0, api.ErrShort}.check(t)
	unwrapCase{[]byte{5, 1}, nil, 0, api.ErrShort}.check(t)
	unwrapCase{[]byte{1, 9, 9, 9, 9}, nil, 0, api.ErrShort}.check(t) // whatever the sum would be
	// The bytes behind an argument's end are no part of it.
	unwrapCase{f[: len(f)-1 : len(f)], nil, 0, api.ErrShort}.check(t)
}

// P2.3: a sum that is not that of the bytes ahead of it.
func TestUnwrapRefusesWrongSums(t *testing.T) {
	other := binary.LittleEndian.AppendUint32
	for _, c := range []unwrapCase{
		{[]byte{0, 1, 2, 3, 4}, nil, 0, api.ErrSum},
		{[]byte{0, 0, 0, 0, 0}, nil, 0, api.ErrSum},
		{[]byte{0, 210, 2, 239, 141}, nil, 0, api.ErrSum},                             // the highest one first
		{other([]byte{1, 7}, crc32.ChecksumIEEE([]byte{7})), nil, 0, api.ErrSum},      // of the payload alone
		{other([]byte{1, 7}, ^crc32.ChecksumIEEE([]byte{1, 7})), nil, 0, api.ErrSum},  // its bits are not turned
		{other([]byte{1, 7}, crc32.ChecksumIEEE([]byte{1, 7})+1), nil, 0, api.ErrSum}, // one more
		{join([]byte{0, 1, 2, 3, 4}, framed([]byte{7})), nil, 0, api.ErrSum},          // whatever stands behind it
	} {
		c.check(t)
	}
}

// P2.3: each change of each byte of payload and sum is told by the sum.
func TestUnwrapTellsEachChangedByte(t *testing.T) {
	for _, b := range [][]byte{nil, {0}, []byte("123456789"), drawn(130)} {
		f := framed(b)
		for i := len(f) - 4 - len(b); i < len(f); i++ {
			for x := 1; x < 256; x++ {
				f[i] ^= byte(x)
				unwrapCase{f, nil, 0, api.ErrSum}.check(t)
				f[i] ^= byte(x)
			}
		}
		unwrapCase{f, b, len(f), api.OK}.check(t)
	}
}

// P2.2, P2.3: what was wrapped is unwrapped.
func TestWrapThenUnwrap(t *testing.T) {
	for _, b := range payloads() {
		f, e := Wrap(b)
		if e != api.OK {
			t.Fatalf("Wrap of %d bytes is refused: %d", len(b), e)
		}
		unwrapCase{f, b, len(f), api.OK}.check(t)
	}
}

func checkAll(t *testing.T, what string, b []byte, want [][]byte, used int) {
	t.Helper()
	l, n := All(b)
	if !slices.EqualFunc(l, want, bytes.Equal) || n != used {
		t.Errorf("%s: All(%v) = %v %d, want %v %d", what, b, l, n, want, used)
	}
}

// P2.4: frames one behind the other, and bytes of which none is one.
func TestAll(t *testing.T) {
	checkAll(t, "nil", nil, nil, 0)
	checkAll(t, "no bytes", []byte{}, nil, 0)
	checkAll(t, "no frame", []byte{9}, nil, 0)
	checkAll(t, "no sum", []byte{0, 1, 2, 3, 4}, nil, 0)
	nothing := framed(nil)
	checkAll(t, "nothing", nothing, [][]byte{nil}, 5)
	checkAll(t, "nothing, often", bytes.Repeat(nothing, 100), make([][]byte, 100), 500)
	var all []byte
	var want [][]byte
	for _, b := range payloads() {
		all, want = append(all, framed(b)...), append(want, b)
		checkAll(t, "one more", all, want, len(all))
	}
}

// P2.4: what stands behind the first one that is refused is not looked at, whatever the error is.
func TestAllEndsAtWhatIsRefused(t *testing.T) {
	a, b, c := []byte("one"), []byte(nil), drawn(200)
	ahead := join(framed(a), framed(b))
	for _, wrong := range [][]byte{
		{9},
		{128},
		{128, 0},
		bytes.Repeat([]byte{128}, 10),
		{161, 156, 1},
		{0, 1, 2, 3, 4},
		{0, 141, 239, 2, 211},
		sealed([]byte{128, 0}),
	} {
		checkAll(t, "first", wrong, nil, 0)
		checkAll(t, "last", join(ahead, wrong), [][]byte{a, b}, len(ahead))
		checkAll(t, "between", join(ahead, wrong, framed(c)), [][]byte{a, b}, len(ahead))
	}
}

// P2.4: of a torn end all whole frames are had.
func TestAllOfATornEnd(t *testing.T) {
	want := [][]byte{[]byte("one"), nil, drawn(130), {0}}
	var all []byte
	var ends []int
	for _, b := range want {
		all = append(all, framed(b)...)
		ends = append(ends, len(all))
	}
	for cut := range len(all) + 1 {
		whole, used := 0, 0
		for _, end := range ends {
			if end <= cut {
				whole, used = whole+1, end
			}
		}
		checkAll(t, "torn", all[:cut], want[:whole], used)
	}
}

// P2.4: of a changed byte all frames ahead of its own are had.
func TestAllOfAChangedByte(t *testing.T) {
	ahead, changed, behind := framed([]byte("one")), framed(drawn(130)), framed(nil)
	all := join(ahead, changed, behind)
	for i := len(ahead) + 2; i < len(ahead)+len(changed); i++ {
		all[i] ^= 1
		checkAll(t, "changed", all, [][]byte{[]byte("one")}, len(ahead))
		all[i] ^= 1
	}
	checkAll(t, "as it was", all, [][]byte{[]byte("one"), drawn(130), nil}, len(all))
}

// What is handed in stays as it was, its spare room too, and is no part of an answer.
func TestArgumentsStay(t *testing.T) {
	room := append(join(framed([]byte("one")), framed([]byte("two"))), 99, 99, 99, 99, 99, 99, 99, 99)
	was := bytes.Clone(room)
	b := room[:len(room)-8]
	Sum(b)
	f, _ := Wrap(b)
	spoil(f)
	p, _, _ := Unwrap(b)
	spoil(p)
	l, _ := All(b)
	for _, p := range l {
		spoil(p)
	}
	if !bytes.Equal(room, was) {
		t.Errorf("the bytes became %v, they were %v", room, was)
	}
	p, _, _ = Unwrap(b)
	l, _ = All(b)
	spoil(room)
	if string(p) != "one" || len(l) != 2 || string(l[0]) != "one" || string(l[1]) != "two" {
		t.Errorf("answers hang on bytes that were written over: %q %q", p, l)
	}
}

// spoil writes over bytes and over their spare room.
func spoil(b []byte) {
	b = b[:cap(b)]
	for i := range b {
		b[i] = 77
	}
}

// No two answers share memory, spare room neither.
func TestAnswersShareNothing(t *testing.T) {
	f, _ := Wrap([]byte("one"))
	g, _ := Wrap([]byte("one"))
	spoil(f)
	if !bytes.Equal(g, framed([]byte("one"))) {
		t.Errorf("Wrap hangs on an answer that was written over: %v", g)
	}
	p, _, _ := Unwrap(g)
	q, _, _ := Unwrap(g)
	spoil(p)
	if string(q) != "one" {
		t.Errorf("Unwrap hangs on an answer that was written over: %q", q)
	}
	l, _ := All(join(g, framed(nil), g, framed([]byte("two"))))
	spoil(l[0])
	spoil(l[1])
	spoil(l[3])
	if string(l[2]) != "one" {
		t.Errorf("payloads of one answer share memory: %q", l)
	}
}
