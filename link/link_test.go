package link

import (
	"fmt"
	"math"
	"slices"
	"testing"

	"paceline/api"
)

const top = 1 << 40 // the greatest epoch, Base and Want

func one(to, value int) api.Mail { return api.Mail{To: to, Value: value} }

// loads: so many, told from each other by their numbers.
func loads(n int) []api.Mail {
	var l []api.Mail
	for i := range n {
		l = append(l, one(i, 7*i+3))
	}
	return l
}

func sender(epoch, base int, l ...api.Mail) api.Sender {
	return api.Sender{Epoch: epoch, Base: base, Loads: l}
}

func receiver(epoch, want int) api.Receiver { return api.Receiver{Epoch: epoch, Want: want} }

func packet(epoch, no int, load api.Mail) api.Packet {
	return api.Packet{Epoch: epoch, No: no, Load: load}
}

func ack(epoch, no int) api.Ack { return api.Ack{Epoch: epoch, No: no} }

// tell in short what was handed in or answered: lists may be long.
func tell(x any) string { return fmt.Sprintf("%.300s", fmt.Sprint(x)) }

func same(a, b api.Sender) bool {
	return a.Epoch == b.Epoch && a.Base == b.Base && slices.Equal(a.Loads, b.Loads)
}

func sends(t *testing.T, s api.Sender, m api.Mail, want api.Sender) {
	t.Helper()
	if got, e := Send(s, m); e != api.OK || !same(got, want) {
		t.Errorf("Send %s %v = %s %d, want %s", tell(s), m, tell(got), e, tell(want))
	}
}

func noSend(t *testing.T, s api.Sender, m api.Mail, want api.Errno) {
	t.Helper()
	if got, e := Send(s, m); e != want || !same(got, api.Sender{}) {
		t.Errorf("Send %s %v = %s %d, want none, %d", tell(s), m, tell(got), e, want)
	}
}

func dues(t *testing.T, s api.Sender, want ...api.Packet) {
	t.Helper()
	if got, e := Due(s); e != api.OK || !slices.Equal(got, want) {
		t.Errorf("Due %s = %v %d, want %v", tell(s), got, e, want)
	}
}

func acks(t *testing.T, s api.Sender, a api.Ack, want api.Sender) {
	t.Helper()
	if got, e := Acked(s, a); e != api.OK || !same(got, want) {
		t.Errorf("Acked %s %v = %s %d, want %s", tell(s), a, tell(got), e, tell(want))
	}
}

func noAck(t *testing.T, s api.Sender, a api.Ack, want api.Errno) {
	t.Helper()
	if got, e := Acked(s, a); e != want || !same(got, api.Sender{}) {
		t.Errorf("Acked %s %v = %s %d, want none, %d", tell(s), a, tell(got), e, want)
	}
}

// hears: what is handed on is l; the ack is the one that the receiver behind it tells.
func hears(t *testing.T, r api.Receiver, p api.Packet, want api.Receiver, l ...api.Mail) {
	t.Helper()
	got, handed, a, e := Hear(r, p)
	if e != api.OK || got != want || !slices.Equal(handed, l) || a != ack(want.Epoch, want.Want) {
		t.Errorf("Hear %v %v = %v %v %v %d, want %v %v", r, p, got, handed, a, e, want, l)
	}
}

func noHear(t *testing.T, r api.Receiver, p api.Packet, want api.Errno) {
	t.Helper()
	got, handed, a, e := Hear(r, p)
	if e != want || got != (api.Receiver{}) || len(handed) != 0 || a != (api.Ack{}) {
		t.Errorf("Hear %v %v = %v %v %v %d, want none, %d", r, p, got, handed, a, e, want)
	}
}

// anyMail: what may be a load: all numbers may.
func anyMail() []api.Mail {
	return []api.Mail{
		one(0, 0), one(5, 9), one(-1, 0), one(0, -1), one(-1, -1), one(api.MaxVertices, api.MaxDist+1),
		one(math.MinInt, math.MaxInt), one(math.MaxInt, math.MinInt),
	}
}

// inside: numbers that an epoch, a Base and a Want may be, the edges among them.
func inside() []int { return []int{0, 1, 2, 77, 1 << 31, 1 << 32, top - 1, top} }

// outside: numbers that they may not be.
func outside() []int {
	return []int{-1, -2, -1 << 32, -top, math.MinInt, math.MinInt + 1, top + 1, top + 2, 2 * top, 1 << 62, math.MaxInt}
}

// senderMayNot be: all three calls answer ErrState, ahead of what they could have against an ack.
func senderMayNot(t *testing.T, s api.Sender) {
	t.Helper()
	for _, m := range anyMail() {
		noSend(t, s, m, api.ErrState)
	}
	if got, e := Due(s); e != api.ErrState || len(got) != 0 {
		t.Errorf("Due %s = %s %d, want none, ErrState", tell(s), tell(got), e)
	}
	for _, epoch := range []int{s.Epoch, 0, 1, -1, top} {
		for _, no := range []int{s.Base, s.Base + 1, s.Base - 1, 0, -1, math.MaxInt, math.MinInt} {
			noAck(t, s, ack(epoch, no), api.ErrState)
		}
	}
}

// receiverMayNot be: Hear answers ErrState, whatever the packet.
func receiverMayNot(t *testing.T, r api.Receiver) {
	t.Helper()
	for _, epoch := range []int{r.Epoch, 0, 1, -1, top} {
		for _, no := range []int{r.Want, r.Want + 1, r.Want - 1, 0, -1, math.MaxInt, math.MinInt} {
			noHear(t, r, packet(epoch, no, one(1, 2)), api.ErrState)
		}
	}
}

// P10.1: an epoch or a Base that may not be, with the other one right or wrong, too.
func TestSenderRefused(t *testing.T) {
	for _, n := range outside() {
		for _, l := range [][]api.Mail{nil, {}, loads(1), loads(api.Window), loads(api.Window + 1)} {
			senderMayNot(t, sender(n, 0, l...))
			senderMayNot(t, sender(n, top, l...))
			senderMayNot(t, sender(0, n, l...))
			senderMayNot(t, sender(top, n, l...))
			senderMayNot(t, sender(n, n, l...))
		}
	}
}

// P10.1, P10.3: more than MaxQueued Loads: the sender may not be, ahead of being full.
func TestLoadsRefused(t *testing.T) {
	for _, n := range []int{api.MaxQueued + 1, api.MaxQueued + 2, 2 * api.MaxQueued} {
		senderMayNot(t, sender(0, 0, loads(n)...))
		senderMayNot(t, sender(3, 5, loads(n)...))
		senderMayNot(t, sender(top, top, loads(n)...))
	}
	full := loads(api.MaxQueued)
	for _, n := range outside() {
		senderMayNot(t, sender(n, 0, full...))
		senderMayNot(t, sender(0, n, full...))
	}
}

// P10.1: an epoch or a Want that may not be.
func TestReceiverRefused(t *testing.T) {
	for _, n := range outside() {
		receiverMayNot(t, receiver(n, 0))
		receiverMayNot(t, receiver(n, top))
		receiverMayNot(t, receiver(0, n))
		receiverMayNot(t, receiver(top, n))
		receiverMayNot(t, receiver(n, n))
	}
}

// P10.2: both ends have the epoch, and nothing else.
func TestOpen(t *testing.T) {
	for _, epoch := range inside() {
		s, r, e := Open(epoch)
		if e != api.OK || !same(s, sender(epoch, 0)) || r != receiver(epoch, 0) {
			t.Errorf("Open %d = %v %v %d", epoch, s, r, e)
		}
		dues(t, s)
		sends(t, s, one(4, 5), sender(epoch, 0, one(4, 5)))
		hears(t, r, packet(epoch, 0, one(4, 5)), receiver(epoch, 1), one(4, 5))
	}
	for _, epoch := range outside() {
		s, r, e := Open(epoch)
		if e != api.ErrRange || !same(s, api.Sender{}) || r != (api.Receiver{}) {
			t.Errorf("Open %d = %v %v %d, want none, ErrRange", epoch, s, r, e)
		}
	}
}

// P10.3: any mail, behind the Loads, at all epochs and Bases that may be.
func TestSend(t *testing.T) {
	for _, m := range anyMail() {
		sends(t, sender(0, 0), m, sender(0, 0, m))
		sends(t, api.Sender{Loads: []api.Mail{}}, m, sender(0, 0, m))
		sends(t, sender(2, 9, one(1, 1)), m, sender(2, 9, one(1, 1), m))
		sends(t, sender(2, 9, m, m), m, sender(2, 9, m, m, m))
		sends(t, sender(2, 9, one(6, 1), m, one(5, 0)), one(0, 0), sender(2, 9, one(6, 1), m, one(5, 0), one(0, 0)))
	}
	for _, epoch := range inside() {
		for _, base := range inside() {
			for _, n := range []int{0, 1, api.Window - 1, api.Window, api.Window + 1, 30} {
				l := loads(n + 1)
				sends(t, sender(epoch, base, l[:n]...), l[n], sender(epoch, base, l...))
			}
		}
	}
}

// P10.3: from an open link on to a full one, and none behind that.
func TestSendFull(t *testing.T) {
	l := loads(api.MaxQueued)
	s, _, _ := Open(8)
	for i, m := range l {
		next, e := Send(s, m)
		if e != api.OK || next.Epoch != 8 || next.Base != 0 || len(next.Loads) != i+1 {
			t.Fatalf("Send of load %d: %d, %d Loads", i, e, len(next.Loads))
		}
		s = next
	}
	if !slices.Equal(s.Loads, l) {
		t.Errorf("a full sender has other Loads: %s", tell(s))
	}
	for _, m := range anyMail() {
		noSend(t, s, m, api.ErrFull)
		noSend(t, sender(0, 0, l...), m, api.ErrFull)
		noSend(t, sender(top, top, l...), m, api.ErrFull)
	}
	sends(t, sender(top, top, l[1:]...), one(-1, 9), sender(top, top, append(l[1:], one(-1, 9))...))
}

// P10.3, P10.5: an ack makes room in a full sender, for as many as it tells of.
func TestRoomAgain(t *testing.T) {
	l := loads(api.MaxQueued + api.Window)
	for n := range api.Window + 1 {
		s, e := Acked(sender(1, 10, l[:api.MaxQueued]...), ack(1, 10+n))
		if e != api.OK {
			t.Fatalf("Acked: %d", e)
		}
		for _, m := range l[api.MaxQueued : api.MaxQueued+n] {
			if s, e = Send(s, m); e != api.OK {
				t.Fatalf("Send behind an ack of %d: %d", n, e)
			}
		}
		if !same(s, sender(1, 10+n, l[n:api.MaxQueued+n]...)) {
			t.Errorf("other Loads behind an ack of %d: %s", n, tell(s))
		}
		noSend(t, s, one(0, 0), api.ErrFull)
	}
}

// P10.4: written by hand: none, fewer than Window, just as many, more.
func TestDue(t *testing.T) {
	a, b, c, d, f := one(3, 1), one(-4, 1), one(5, -9), one(2, 6), one(5, 3)
	dues(t, sender(0, 0))
	dues(t, api.Sender{Epoch: top, Base: top, Loads: []api.Mail{}})
	dues(t, sender(7, 0, a), packet(7, 0, a))
	dues(t, sender(0, 9, a, b), packet(0, 9, a), packet(0, 10, b))
	dues(t, sender(1, 2, c, b, a), packet(1, 2, c), packet(1, 3, b), packet(1, 4, a))
	four := []api.Packet{packet(6, 5, a), packet(6, 6, b), packet(6, 7, c), packet(6, 8, d)}
	dues(t, sender(6, 5, a, b, c, d), four...)
	dues(t, sender(6, 5, a, b, c, d, f), four...)
	dues(t, sender(6, 5, a, b, c, d, f, a), four...)
	dues(t, sender(top, top, a, a), packet(top, top, a), packet(top, top+1, a))
}

// P10.4: all edges with each other, up to a full sender.
func TestDueEdges(t *testing.T) {
	for _, epoch := range inside() {
		for _, base := range inside() {
			for _, n := range []int{0, 1, 2, api.Window - 1, api.Window, api.Window + 1, 2 * api.Window, api.MaxQueued - 1, api.MaxQueued} {
				l := loads(n)
				var want []api.Packet
				for i := 0; i < n && i < api.Window; i++ {
					want = append(want, packet(epoch, base+i, l[i]))
				}
				dues(t, sender(epoch, base, l...), want...)
			}
		}
	}
	for _, m := range anyMail() {
		dues(t, sender(1, 1, m), packet(1, 1, m))
	}
}

// P10.5: written by hand: at Base, below it, inside, at the end of what is due, and one behind that.
func TestAcked(t *testing.T) {
	l := loads(6)
	s := sender(3, 20, l...)
	acks(t, s, ack(3, 0), s)
	acks(t, s, ack(3, 19), s)
	acks(t, s, ack(3, 20), s)
	acks(t, s, ack(3, 21), sender(3, 21, l[1:]...))
	acks(t, s, ack(3, 23), sender(3, 23, l[3:]...))
	acks(t, s, ack(3, 24), sender(3, 24, l[4:]...))
	noAck(t, s, ack(3, 25), api.ErrRange) // there are 6 Loads, but 4 of them are due
	noAck(t, s, ack(3, 26), api.ErrRange)
	noAck(t, s, ack(3, -1), api.ErrRange)
	two := sender(0, 0, l[:2]...)
	acks(t, two, ack(0, 0), two)
	acks(t, two, ack(0, 1), sender(0, 1, l[1]))
	acks(t, two, ack(0, 2), sender(0, 2))
	noAck(t, two, ack(0, 3), api.ErrRange)
	acks(t, sender(5, 8), ack(5, 8), sender(5, 8))
	noAck(t, sender(5, 8), ack(5, 9), api.ErrRange)
}

// P10.5: all edges with each other, held against the words: each Load has its No, and stays if that is not below the ack's.
func TestAckedEdges(t *testing.T) {
	for _, epoch := range inside() {
		for _, base := range inside() {
			for _, n := range []int{0, 1, 2, api.Window - 1, api.Window, api.Window + 1, 9} {
				s := sender(epoch, base, loads(n)...)
				for _, no := range nearby(base) {
					ackedAsTold(t, s, ack(epoch, no))
				}
			}
		}
	}
}

// nearby: numbers around a number, and some far away from it.
func nearby(n int) []int {
	l := []int{0, 1, -1, -n, math.MinInt, math.MaxInt, top, top + 1, n - 1000, n + 1000, n + api.MaxQueued}
	for i := -api.Window - 2; i <= api.Window+3; i++ {
		l = append(l, n+i)
	}
	return l
}

// ackedAsTold: P10.5, word by word, for an ack of the sender's epoch.
func ackedAsTold(t *testing.T, s api.Sender, a api.Ack) {
	t.Helper()
	due, _ := Due(s)
	if a.No < 0 || (a.No > s.Base && a.No-s.Base > len(due)) {
		noAck(t, s, a, api.ErrRange)
		return
	}
	if a.No <= s.Base {
		acks(t, s, a, s)
		return
	}
	var stay []api.Mail
	for i, m := range s.Loads {
		if s.Base+i >= a.No {
			stay = append(stay, m)
		}
	}
	acks(t, s, a, sender(s.Epoch, a.No, stay...))
}

// P10.5: a full sender and one that is nearly full.
func TestAckedFull(t *testing.T) {
	for _, n := range []int{api.MaxQueued - 1, api.MaxQueued} {
		s := sender(4, 0, loads(n)...)
		for no := -1; no <= api.Window+2; no++ {
			ackedAsTold(t, s, ack(4, no))
		}
		noAck(t, s, ack(4, n), api.ErrRange)
	}
}

// P10.5: another epoch is told ahead of a No that is wrong.
func TestAckedEpoch(t *testing.T) {
	for _, epoch := range inside() {
		for _, other := range append(append(inside(), outside()...), epoch-1, epoch+1, -epoch-1) {
			if other == epoch {
				continue
			}
			for _, n := range []int{0, 1, api.Window, api.Window + 1} {
				for _, no := range []int{7, 8, 9, 8 + n, 9 + n, 0, -1, math.MinInt, math.MaxInt} {
					noAck(t, sender(epoch, 8, loads(n)...), ack(other, no), api.ErrEpoch)
				}
			}
		}
	}
}

// P10.6: the wanted packet is handed on, whatever its load; no other one is, and each is acked.
func TestHear(t *testing.T) {
	for _, m := range anyMail() {
		hears(t, receiver(2, 5), packet(2, 5, m), receiver(2, 6), m)
		hears(t, receiver(2, 5), packet(2, 4, m), receiver(2, 5))
		hears(t, receiver(2, 5), packet(2, 6, m), receiver(2, 5))
		hears(t, receiver(0, 0), packet(0, 0, m), receiver(0, 1), m)
		hears(t, receiver(0, 0), packet(0, -1, m), receiver(0, 0))
	}
	for _, epoch := range inside() {
		for _, want := range inside() {
			for _, no := range nearby(want) {
				if no == want {
					hears(t, receiver(epoch, want), packet(epoch, no, one(8, 1)), receiver(epoch, want+1), one(8, 1))
				} else {
					hears(t, receiver(epoch, want), packet(epoch, no, one(8, 1)), receiver(epoch, want))
				}
			}
		}
	}
}

// P10.6: a packet of another epoch, the wanted No or not.
func TestHearEpoch(t *testing.T) {
	for _, epoch := range inside() {
		for _, other := range append(append(inside(), outside()...), epoch-1, epoch+1, -epoch-1) {
			if other == epoch {
				continue
			}
			for _, no := range nearby(6) {
				noHear(t, receiver(epoch, 6), packet(other, no, one(1, 1)), api.ErrEpoch)
			}
		}
	}
}

// die: numbers that look drawn, the same each time.
type die uint64

func (d *die) n(most int) int {
	*d = *d*6364136223846793005 + 1442695040888963407
	return int(uint64(*d>>33) % uint64(most))
}

// way between the ends of a link: packets and acks that were sent at any time, of this epoch or another one.
type way struct {
	s       api.Sender
	r       api.Receiver
	packets []api.Packet
	acks    []api.Ack
	sent    []api.Mail
	handed  []api.Mail
}

func openWay(t *testing.T, epoch int) *way {
	t.Helper()
	s, r, e := Open(epoch)
	if e != api.OK {
		t.Fatalf("Open %d: %d", epoch, e)
	}
	return &way{s: s, r: r}
}

func (w *way) send(t *testing.T, m api.Mail) {
	t.Helper()
	next, e := Send(w.s, m)
	if e != api.OK {
		t.Fatalf("Send: %d", e)
	}
	w.s, w.sent = next, append(w.sent, m)
}

// hear a packet, and see whether what was handed on is still what was sent, from the beginning on.
func (w *way) hear(t *testing.T, p api.Packet) {
	t.Helper()
	next, l, a, e := Hear(w.r, p)
	if p.Epoch != w.r.Epoch {
		if e != api.ErrEpoch {
			t.Fatalf("a packet of another epoch: %d", e)
		}
		return
	}
	if e != api.OK {
		t.Fatalf("Hear: %d", e)
	}
	w.r, w.handed, w.acks = next, append(w.handed, l...), append(w.acks, a)
	if len(w.handed) > len(w.sent) || !slices.Equal(w.handed, w.sent[:len(w.handed)]) {
		t.Fatalf("handed on: %s, sent: %s", tell(w.handed), tell(w.sent))
	}
}

// acked: no ack that a receiver ever gave is refused, but for its epoch.
func (w *way) acked(t *testing.T, a api.Ack) {
	t.Helper()
	next, e := Acked(w.s, a)
	if a.Epoch != w.s.Epoch {
		if e != api.ErrEpoch {
			t.Fatalf("an ack of another epoch: %d", e)
		}
		return
	}
	if e != api.OK {
		t.Fatalf("Acked %s %v: %d", tell(w.s), a, e)
	}
	w.s = next
}

func (w *way) due(t *testing.T) []api.Packet {
	t.Helper()
	l, e := Due(w.s)
	if e != api.OK {
		t.Fatalf("Due: %d", e)
	}
	return l
}

// settle: what is due and what is acked comes again and again; each time goes at least one load further.
func (w *way) settle(t *testing.T) {
	t.Helper()
	for range len(w.s.Loads) {
		for _, p := range w.due(t) {
			w.hear(t, p)
		}
		for _, a := range w.acks {
			w.acked(t, a)
		}
		w.acks = nil
	}
	if !slices.Equal(w.handed, w.sent) || len(w.s.Loads) != 0 || len(w.due(t)) != 0 {
		t.Fatalf("not all came: %d of %d, %d wait", len(w.handed), len(w.sent), len(w.s.Loads))
	}
}

// pick one of the packets or acks that were sent at any time: it comes, and may come again.
func (w *way) pick(t *testing.T, d *die) {
	t.Helper()
	if len(w.packets) > 0 && d.n(2) == 0 {
		w.hear(t, w.packets[d.n(len(w.packets))])
	}
	if len(w.acks) > 0 && d.n(2) == 0 {
		w.acked(t, w.acks[d.n(len(w.acks))])
	}
}

// What comes of it: drawn losses, doubles and orders, with datagrams of other epochs between.
func TestLostDoubledMixed(t *testing.T) {
	d := die(10)
	for epoch := range 60 {
		w := openWay(t, epoch)
		w.packets = []api.Packet{packet(epoch+1, 0, one(-7, -7)), packet(epoch-1, 1, one(-8, -8))}
		w.acks = []api.Ack{ack(epoch+1, 1), ack(epoch-1, 0)}
		for range 300 {
			switch d.n(4) {
			case 0:
				w.send(t, one(d.n(3), len(w.sent)))
			case 1:
				if l := w.due(t); len(l) > 0 {
					w.packets = append(w.packets, l[d.n(len(l)):]...)
				}
			default:
				w.pick(t, &d)
			}
		}
		if len(w.handed) == 0 {
			t.Errorf("epoch %d: nothing came: the draws are too thin", epoch)
		}
		w.settle(t)
	}
}

// What comes of it: again and again, though of packets and acks only some third comes.
func TestAgainAndAgain(t *testing.T) {
	d := die(5)
	w := openWay(t, 5)
	for _, m := range loads(40) {
		w.send(t, m)
	}
	for range 1000 {
		for _, p := range w.due(t) {
			if d.n(3) == 0 {
				w.hear(t, p)
			}
		}
		for _, a := range w.acks {
			if d.n(3) == 0 {
				w.acked(t, a)
			}
		}
		w.acks = nil
	}
	if !slices.Equal(w.handed, w.sent) || len(w.s.Loads) != 0 {
		t.Errorf("%d of %d came, %d wait", len(w.handed), len(w.sent), len(w.s.Loads))
	}
}

// What comes of it: acks alone are lost at first: nothing goes on behind the window, and nothing comes twice.
func TestAcksLost(t *testing.T) {
	w := openWay(t, 0)
	for _, m := range loads(10) {
		w.send(t, m)
	}
	for range 5 {
		for _, p := range w.due(t) {
			w.hear(t, p)
		}
	}
	if len(w.handed) != api.Window {
		t.Errorf("%d came, want %d", len(w.handed), api.Window)
	}
	w.settle(t)
}

// ends of a small link, and which packets and acks were sent at any time, a bit each: all that its future hangs on.
type ends struct{ sent, base, want, packets, acks int }

// What comes of it: each state that a link of six loads can come to, whatever is lost, doubled or mixed.
func TestEveryWay(t *testing.T) {
	all := loads(6)
	seen := map[ends]struct{}{{}: {}}
	todo := []ends{{}}
	for len(todo) > 0 {
		x := todo[0]
		todo = todo[1:]
		for _, y := range x.next(t, all) {
			if _, ok := seen[y]; !ok {
				seen[y] = struct{}{}
				todo = append(todo, y)
			}
		}
		w := x.way(all)
		w.settle(t)
	}
	if len(seen) < 500 {
		t.Errorf("%d states, there are more", len(seen))
	}
}

// way with these ends: what was handed on is what the receiver says that it wants no more.
func (x ends) way(all []api.Mail) way {
	return way{
		s: sender(1, x.base, all[x.base:x.sent]...), r: receiver(1, x.want),
		sent: slices.Clone(all[:x.sent]), handed: slices.Clone(all[:x.want]),
	}
}

// next states: one more load is sent, a due packet goes on the way, or a packet or an ack that was ever sent comes.
func (x ends) next(t *testing.T, all []api.Mail) []ends {
	t.Helper()
	var l []ends
	keep := func(w way, packets, acks int) {
		l = append(l, ends{len(w.sent), w.s.Base, w.r.Want, packets, acks})
	}
	if w := x.way(all); x.sent < len(all) {
		w.send(t, all[x.sent])
		keep(w, x.packets, x.acks)
	}
	w := x.way(all)
	for _, p := range w.due(t) {
		keep(w, x.packets|1<<p.No, x.acks)
	}
	for no := range len(all) + 1 {
		if x.packets>>no&1 == 1 {
			w := x.way(all)
			w.hear(t, packet(1, no, all[no]))
			keep(w, x.packets, x.acks|1<<w.acks[0].No)
		}
		if x.acks>>no&1 == 1 {
			w := x.way(all)
			w.acked(t, ack(1, no))
			keep(w, x.packets, x.acks)
		}
	}
	return l
}

// roomy: the sender again, its Loads within a longer list, to see whether they or what lies behind them is changed.
func roomy(s api.Sender) api.Sender {
	s.Loads = append(slices.Clone(s.Loads), slices.Repeat([]api.Mail{one(-77, -77)}, 8)...)[:len(s.Loads)]
	return s
}

// whole: all that a sender has, the spare room of its Loads too.
func whole(s api.Sender) string { return fmt.Sprint(s.Epoch, s.Base, s.Loads[:cap(s.Loads)]) }

// spoil a list with its spare room: nothing else may change by it.
func spoil[T any](l []T, by T) {
	l = l[:cap(l)]
	for i := range l {
		l[i] = by
	}
}

// senders of all lengths around the window, and refused ones.
func memoryOf() []api.Sender {
	l := []api.Sender{sender(-1, 0, loads(3)...), sender(0, 0, loads(api.MaxQueued)...), sender(0, 0, loads(api.MaxQueued+1)...)}
	for n := range 9 {
		l = append(l, sender(2, 6, loads(n)...))
	}
	return l
}

// P10.3, P10.5: what is handed in stays, its spare room too, and the sender that is answered is new memory.
func TestSenderMemory(t *testing.T) {
	calls := []func(api.Sender) (api.Sender, api.Errno){func(s api.Sender) (api.Sender, api.Errno) { return Send(s, one(5, 5)) }}
	for _, a := range []api.Ack{ack(2, 0), ack(2, 6), ack(2, 7), ack(2, 9), ack(2, 10), ack(2, 11), ack(1, 7), ack(2, -1)} {
		calls = append(calls, func(s api.Sender) (api.Sender, api.Errno) { return Acked(s, a) })
	}
	for _, plain := range memoryOf() {
		for i, call := range calls {
			s := roomy(plain)
			before := whole(s)
			got, e := call(s)
			again, f := call(s)
			if e != f || !same(got, again) {
				t.Fatalf("call %d of %s: %s %d, then %s %d", i, tell(plain), tell(got), e, tell(again), f)
			}
			kept := whole(again)
			spoil(got.Loads, one(-99, -99))
			if whole(s) != before {
				t.Fatalf("call %d of %s changed its argument, or shares memory with it", i, tell(plain))
			}
			if whole(again) != kept {
				t.Fatalf("call %d of %s: two answers share memory", i, tell(plain))
			}
		}
	}
}

// P10.4: the same for what is due.
func TestDueMemory(t *testing.T) {
	for _, plain := range memoryOf() {
		s := roomy(plain)
		before := whole(s)
		got, e := Due(s)
		again, f := Due(s)
		if e != f || !slices.Equal(got, again) {
			t.Fatalf("Due %s: %v %d, then %v %d", tell(plain), got, e, again, f)
		}
		kept := slices.Clone(again)
		spoil(got, packet(-99, -99, one(-99, -99)))
		if whole(s) != before {
			t.Fatalf("Due %s changed its argument", tell(plain))
		}
		if !slices.Equal(again, kept) {
			t.Fatalf("Due %s: two answers share memory", tell(plain))
		}
	}
}

// P10.6: what is handed on is new memory each time.
func TestHearMemory(t *testing.T) {
	r, p := receiver(1, 3), packet(1, 3, one(4, 4))
	_, got, _, _ := Hear(r, p)
	_, again, _, _ := Hear(r, p)
	spoil(got, one(-99, -99))
	if !slices.Equal(again, []api.Mail{p.Load}) {
		t.Errorf("Hear: two answers share memory: %v", again)
	}
	hears(t, r, p, receiver(1, 4), one(4, 4))
}
