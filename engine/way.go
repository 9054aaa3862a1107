package engine

import (
	"slices"

	"paceline/api"
)

// datagram from a worker to another one: a packet, or an ack, which has the packet's Epoch and No alone.
type datagram struct {
	from  int
	to    int
	isAck bool
	api.Packet
}

// pieceSize: how many datagrams are moved at most when one is taken away.
const pieceSize = 512

// way that datagrams are on, in the order in which they were sent. It has pieces, none of them empty:
// from among a great many one is taken without moving all that are behind it.
type way struct {
	pieces [][]datagram
	count  int
}

func (y *way) put(d datagram) {
	last := len(y.pieces) - 1
	if last < 0 || len(y.pieces[last]) == pieceSize {
		y.pieces = append(y.pieces, nil)
		last++
	}
	y.pieces[last] = append(y.pieces[last], d)
	y.count++
}

// find the datagram at a place, counted round and round: its piece, and its place there. There must be one.
func (y *way) find(at int) (piece, place int) {
	place = at % y.count
	for place >= len(y.pieces[piece]) {
		place -= len(y.pieces[piece])
		piece++
	}
	return piece, place
}

func (y *way) remove(piece, place int) {
	y.pieces[piece] = slices.Delete(y.pieces[piece], place, place+1)
	if len(y.pieces[piece]) == 0 {
		y.pieces = slices.Delete(y.pieces, piece, piece+1)
	}
	y.count--
}
