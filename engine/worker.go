package engine

import (
	"paceline/api"
	"paceline/ckpt"
	"paceline/disk"
	"paceline/link"
	"paceline/owner"
	"paceline/queue"
	"paceline/store"
)

// partFile of a worker's disk, beside those of what it saves: its part of the graph.
const partFile = "part"

// slots that are saved to in turn: what all go back to stays while the next is sealed.
const slots = 2

// How far a worker is with what it saves.
const (
	nothing = iota // it was not asked
	asked
	written // not yet safe
	sealed
)

// worker: but for its disk, all of it is lost in a crash.
type worker struct {
	disk  api.Disk
	up    bool
	heard bool // of the epoch; else it is down, or waits for the lead

	epoch     int
	part      api.Part
	mine      []int          // its vertices
	now       api.Saved      // its vertices ahead of this round (or of the next one, if it was asked to save); Values change as they wake
	todo      []api.Handed   // those that wake in this round, and did not yet
	saving    int            // how far it is
	next      api.Queue      // mail for the next round, without its runs
	runs      [][]byte       // these
	senders   []api.Sender   // to each worker; to itself it sends without
	receivers []api.Receiver // from each worker
	sent      []int          // mail in this round, to each worker, itself too
	got       []int          // and from each
}

// newWorker, who waits for the lead, with its part of a graph that is right.
func newWorker(g api.Graph, w, workers int) *worker {
	// The greatest part is less than a frame, and that less than a file: nothing is refused.
	b, _ := store.Build(g, w, workers)
	d, _ := disk.Append(api.Disk{}, partFile, b)
	d, _ = disk.Sync(d, partFile)
	return &worker{disk: d, up: true}
}

// crash: to a disk behind a crash another one does nothing, so that it may be down already.
func (k *worker) crash(keep int) {
	d, _ := disk.Crash(k.disk, keep)
	*k = worker{disk: d}
}

// join an epoch, in which all go back to what was saved at that Step, or to the beginning.
func (k *worker) join(epoch, saved, budget int) {
	if !k.heard {
		k.open()
	}
	k.heard, k.epoch = true, epoch
	for i := range k.part.Workers {
		k.senders[i], k.receivers[i], _ = link.Open(epoch)
	}
	k.next.Budget = budget
	s, e := ckpt.Newest(k.disk, saved)
	if e != api.OK {
		s = beginning(len(k.mine))
	}
	k.begin(s)
}

// open its part, which it lost if it crashed.
func (k *worker) open() {
	b, _ := disk.Read(k.disk, partFile)
	k.part, _ = store.Open(b)
	k.mine, _ = owner.Mine(k.part.Worker, k.part.N, k.part.Workers)
	k.senders = make([]api.Sender, k.part.Workers)
	k.receivers = make([]api.Receiver, k.part.Workers)
}

func beginning(vertices int) api.Saved {
	s := api.Saved{Phase: api.Forward, Fresh: true}
	for range vertices {
		s.Values = append(s.Values, api.Value{A: api.None, Label: api.None})
	}
	return s
}

// begin a round with what its vertices have ahead of it.
func (k *worker) begin(s api.Saved) {
	k.now, k.todo, k.saving = s, nil, nothing
	k.next, k.runs = api.Queue{Budget: k.next.Budget}, nil
	k.sent, k.got = make([]int, k.part.Workers), make([]int, k.part.Workers)
	rest := s.Mail
	for _, v := range k.mine {
		h := api.Handed{Epoch: k.epoch, Step: s.Step, Vertex: v}
		// Mail is in order, as the vertices are: a vertex's stands ahead of all other mail that is left.
		for len(rest) > 0 && rest[0].To == v {
			h.Mail = append(h.Mail, rest[0].Value)
			rest = rest[1:]
		}
		if s.Fresh || len(h.Mail) > 0 {
			k.todo = append(k.todo, h)
		}
	}
}

// turn to the next round, whose mail has all come.
func (k *worker) turn(phase int, fresh bool) {
	all := k.next
	all.Runs = k.runs
	mail, _ := queue.Drain(all)
	k.begin(api.Saved{Step: k.now.Step + 1, Phase: phase, Fresh: fresh, Values: k.now.Values, Mail: mail})
}

// get mail for the next round, from a worker or from itself.
func (k *worker) get(from int, m api.Mail) {
	k.got[from]++
	// A round has far less mail than a queue takes, and none that may not wait.
	k.next, _ = queue.Push(k.next, m)
	// Runs are laid aside: a push goes through all that a queue has, and they would be gone through again and again.
	k.runs = append(k.runs, k.next.Runs...)
	k.next.Runs = nil
}

// write what it was asked to save; seal it.
func (k *worker) write() {
	k.disk, _ = ckpt.Put(k.disk, k.now)
	k.saving = written
}

func (k *worker) seal(every int) {
	k.disk, _ = ckpt.Seal(k.disk, k.now.Step/every%slots)
	k.saving = sealed
}

// report of a round in which all its vertices are done.
func (k *worker) report() api.Report {
	r := api.Report{Worker: k.part.Worker, Epoch: k.epoch, Step: k.now.Step, Sent: k.sent, Got: k.got}
	for _, n := range k.got {
		r.Waking += n
	}
	for _, x := range k.now.Values {
		if x.Label == api.None {
			r.Open++
		}
	}
	return r
}
