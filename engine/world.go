package engine

import (
	"paceline/api"
	"paceline/board"
	"paceline/link"
	"paceline/owner"
	"paceline/prog"
)

// world: a task at work, its workers, what is on the way between them, and what has come of it.
type world struct {
	api.Task
	api.Outcome
	crew []*worker
	way  way
}

// newWorld of a task that is right.
func newWorld(t api.Task) *world {
	w := &world{Task: t}
	for i := range w.Workers {
		w.crew = append(w.crew, newWorker(w.Job.Graph, i, w.Workers))
	}
	w.goBack()
	if w.Job.Graph.N == 0 {
		w.Status = api.Done
	}
	return w
}

// all: whether it holds of each worker.
func (w *world) all(holds func(k *worker) bool) bool {
	for _, k := range w.crew {
		if !holds(k) {
			return false
		}
	}
	return true
}

// move that may be made.
func (w *world) move(m api.Move) {
	switch m.Kind {
	case api.Work:
		w.work(w.crew[m.At])
	case api.Carry, api.Lose, api.Double:
		w.carry(m)
	case api.All:
		w.carryAll()
	case api.Crash:
		w.crew[m.At].crash(m.Keep)
	case api.Start:
		w.crew[m.At].up = true
	case api.Lead:
		w.lead()
	}
}

// work: a piece of it.
func (w *world) work(k *worker) {
	switch {
	case !k.heard:
	case k.saving == asked:
		k.write()
	case k.saving == written:
		k.seal(w.Every)
	case k.saving == nothing && len(k.todo) > 0:
		w.wake(k)
	default:
		w.sendDue(k)
	}
}

// wake a worker's next vertex.
func (w *world) wake(k *worker) {
	h := k.todo[0]
	k.todo = k.todo[1:]
	w.Handed = append(w.Handed, h)
	place, _ := owner.Place(h.Vertex, w.Job.Graph.N, w.Workers)
	// Values that Wake made and mail that Say made are refused nowhere.
	x, says, _ := prog.Wake(w.Job.Kind, h.Vertex, w.Job.Source, k.now.Values[place], k.now.Phase, k.now.Fresh, h.Mail)
	k.now.Values[place] = x
	if says {
		w.say(k, place, x)
	}
}

// say a vertex's value along its edges, one by one: what is too great ends all.
func (w *world) say(k *worker, place int, x api.Value) {
	out, in, _ := prog.Ways(w.Job.Kind, k.now.Phase)
	var hops []api.Hop
	if out {
		hops = append(hops, k.part.Out[place]...)
	}
	if in {
		hops = append(hops, k.part.In[place]...)
	}
	for _, h := range hops {
		n, e := prog.Say(w.Job.Kind, x, k.now.Phase, h.Weight)
		if e != api.OK {
			w.Status = api.Over
			return
		}
		w.send(k, api.Mail{To: h.To, Value: n})
	}
}

func (w *world) send(k *worker, m api.Mail) {
	to, _ := owner.Of(m.To, w.Job.Graph.N, w.Workers)
	k.sent[to]++
	if to == k.part.Worker {
		w.hand(k, to, m)
		return
	}
	// It is not full: of the mail of earlier rounds, all of which came, no more than a Window is not acked.
	k.senders[to], _ = link.Send(k.senders[to], m)
}

// hand mail to a worker.
func (w *world) hand(k *worker, from int, m api.Mail) {
	k.get(from, m)
	w.Most = max(w.Most, len(k.next.Loose))
}

func (w *world) sendDue(k *worker) {
	for to, s := range k.senders {
		due, _ := link.Due(s)
		for _, p := range due {
			w.way.put(datagram{from: k.part.Worker, to: to, Packet: p})
		}
	}
}

// carry one datagram, or lose or double it.
func (w *world) carry(m api.Move) {
	if w.way.count == 0 {
		return
	}
	piece, place := w.way.find(m.At)
	d := w.way.pieces[piece][place]
	if m.Kind != api.Double {
		w.way.remove(piece, place)
	}
	if m.Kind != api.Lose {
		w.come(d)
	}
}

// carryAll that are on the way now: what these cause is on a new one.
func (w *world) carryAll() {
	old := w.way
	w.way = way{}
	for _, l := range old.pieces {
		for _, d := range l {
			w.come(d)
		}
	}
}

// come: a datagram is where it was sent to. What its link refuses is of another epoch, and does nothing.
func (w *world) come(d datagram) {
	k := w.crew[d.to]
	if !k.heard {
		return
	}
	if d.isAck {
		if s, e := link.Acked(k.senders[d.from], api.Ack{Epoch: d.Epoch, No: d.No}); e == api.OK {
			k.senders[d.from] = s
		}
		return
	}
	r, mail, a, e := link.Hear(k.receivers[d.from], d.Packet)
	if e != api.OK {
		return
	}
	k.receivers[d.from] = r
	for _, m := range mail {
		w.hand(k, d.from, m)
	}
	w.way.put(datagram{from: d.to, to: d.from, isAck: true, Packet: api.Packet{Epoch: a.Epoch, No: a.No}})
}

// lead looks at its workers.
func (w *world) lead() {
	isUp := func(k *worker) bool { return k.up }
	hasHeard := func(k *worker) bool { return k.heard }
	hasSaved := func(k *worker) bool { return k.saving == sealed }
	isThrough := func(k *worker) bool { return k.saving == nothing && len(k.todo) == 0 }
	switch {
	case !w.all(isUp):
	case !w.all(hasHeard): // one has come up again
		w.Epoch++
		w.goBack()
	case w.all(hasSaved):
		w.goOn()
	case w.all(isThrough):
		w.look()
	}
}

// goBack: all hear of the epoch, and have what was saved last.
func (w *world) goBack() {
	w.Step = w.Saved
	for _, k := range w.crew {
		k.join(w.Epoch, w.Saved, w.Budget)
	}
}

// goOn with the round ahead of which all have saved.
func (w *world) goOn() {
	w.Step++
	w.Saved = w.Step
	for _, k := range w.crew {
		k.saving = nothing
	}
}

// look whether all mail has come: then the round is over.
func (w *world) look() {
	b, _ := board.Open(w.Workers, w.Epoch, w.Step)
	for _, k := range w.crew {
		b, _ = board.Hear(b, k.report())
	}
	if waking, open, e := board.Ready(b); e == api.OK {
		w.follow(waking, open)
	}
}

// follow a round that is over: with so much mail for the next one, and so many vertices without a label.
func (w *world) follow(waking, open int) {
	phase := w.crew[0].now.Phase
	switch {
	case waking > 0:
		w.turn(phase, false)
	case w.Job.Kind == api.Strong && phase == api.Forward:
		w.turn(api.Back, true)
	case w.Job.Kind == api.Strong && open > 0:
		w.turn(api.Forward, true)
	default:
		w.finish()
	}
}

// turn to the next round, or ask all to save first.
func (w *world) turn(phase int, fresh bool) {
	saves := (w.Step+1)%w.Every == 0
	for _, k := range w.crew {
		k.turn(phase, fresh)
		if saves {
			k.saving = asked
		}
	}
	if !saves {
		w.Step++
	}
}

func (w *world) finish() {
	w.Status = api.Done
	w.Step++
	for v := range w.Job.Graph.N {
		i, _ := owner.Of(v, w.Job.Graph.N, w.Workers)
		place, _ := owner.Place(v, w.Job.Graph.N, w.Workers)
		w.Values = append(w.Values, w.crew[i].now.Values[place])
	}
}
