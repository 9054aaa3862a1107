package engine

import (
	"slices"
	"testing"

	"paceline/api"
)

// A way of many pieces is as a plain list, whatever is put on it and taken from it.
func TestWay(t *testing.T) {
	d := die(20)
	var y way
	var plain []datagram
	for i := range 20000 {
		// It grows to several pieces, shrinks to nothing, and grows again.
		if growing := i/4000%2 == 0; growing && d.below(4) > 0 || len(plain) == 0 {
			x := datagram{from: d.below(8), to: d.below(8), isAck: d.below(2) == 0, Packet: api.Packet{Epoch: d.below(3), No: i}}
			y.put(x)
			plain = append(plain, x)
		} else {
			at := d.oneOf(0, len(plain)-1, d.below(1<<40))
			piece, place := y.find(at)
			if y.pieces[piece][place] != plain[at%len(plain)] {
				t.Fatalf("behind %d moves another datagram is at %d", i, at)
			}
			y.remove(piece, place)
			plain = slices.Delete(plain, at%len(plain), at%len(plain)+1)
		}
		if y.count != len(plain) || i%500 == 0 && !slices.Equal(slices.Concat(y.pieces...), plain) {
			t.Fatalf("behind %d moves %d datagrams are on the way, want %d", i, y.count, len(plain))
		}
		if slices.ContainsFunc(y.pieces, func(l []datagram) bool { return len(l) == 0 || len(l) > pieceSize }) {
			t.Fatalf("behind %d moves a piece has none, or too many", i)
		}
	}
}
