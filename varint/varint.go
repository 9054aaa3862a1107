// Package varint: numbers as few bytes.
package varint

import (
	"slices"

	"paceline/api"
)

const (
	more = 0x80 // the bit that all bytes of a number but the last one have
	last = 9    // the place of the last byte that 64 bits can need: nine bytes hold 63 of them
)

// Put a number.
func Put(n uint64) []byte { return appendNumber(nil, n) }

func appendNumber(b []byte, n uint64) []byte {
	for n >= more {
		b = append(b, byte(n)|more)
		n >>= 7
	}
	return append(b, byte(n))
}

// Get a number, and how many bytes it has.
func Get(b []byte) (uint64, int, api.Errno) {
	var n uint64
	for i, x := range b {
		// This refuses a tenth byte that says there are more, too: no eleventh one is looked at.
		if i == last && x > 1 {
			return 0, 0, api.ErrOver
		}
		n |= uint64(x&^more) << (7 * i)
		if x >= more {
			continue
		}
		if x == 0 && i > 0 {
			return 0, 0, api.ErrForm
		}
		return n, i + 1, api.OK
	}
	return 0, 0, api.ErrShort
}

// Zig: a number with a sign as one without.
func Zig(n int) uint64 {
	if n < 0 {
		// Not -n: that of the least number would leave 64 bits.
		return 2*uint64(-1-n) + 1
	}
	return 2 * uint64(n)
}

// Zag: and back.
func Zag(u uint64) int {
	half := int(u / 2)
	if u%2 == 1 {
		return -1 - half
	}
	return half
}

// Gaps: a list that rises, packed.
func Gaps(l []int) ([]byte, api.Errno) {
	if e := checkList(l); e != api.OK {
		return nil, e
	}
	b := Put(uint64(len(l)))
	ahead := 0
	for i := range len(l) {
		b = appendNumber(b, uint64(l[i]-ahead))
		ahead = l[i]
	}
	return b, api.OK
}

// checkList looks at all bounds ahead of the order: a number outside them is told first, wherever it stands.
func checkList(l []int) api.Errno {
	switch {
	case len(l) > api.MaxList:
		return api.ErrSize
	case slices.ContainsFunc(l, outside):
		return api.ErrRange
	case !slices.IsSorted(l):
		return api.ErrForm
	}
	return api.OK
}

func outside(n int) bool { return n < 0 || n > api.MaxNumber }

// Ungap a list, and how many bytes it has.
func Ungap(b []byte) ([]int, int, api.Errno) {
	count, used, e := Get(b)
	if e != api.OK {
		return nil, 0, e
	}
	if count > api.MaxList {
		return nil, 0, api.ErrSize
	}
	var l []int
	var n uint64
	for range count {
		gap, k, e := Get(b[used:])
		if e != api.OK {
			return nil, 0, e
		}
		// Held against the room that is left: the sum could go round.
		if gap > api.MaxNumber-n {
			return nil, 0, api.ErrRange
		}
		n += gap
		used += k
		l = append(l, int(n))
	}
	return l, used, api.OK
}
