package tests

import (
	"math"
	"math/rand/v2"
	"testing"

	"loop.example/s01723/impl"
)

// weather is how often what happens in a random script, of some hundred.
type weather struct {
	timeout, beat, append, read, deliver, drop, dup, crash, fuse, restart, room, snap, dump, wrong int
}

func (w weather) list() []int {
	return []int{w.timeout, w.beat, w.append, w.read, w.deliver, w.drop, w.dup, w.crash, w.fuse, w.restart, w.room, w.snap, w.dump, w.wrong}
}

func (w weather) kind(r *rand.Rand) int {
	all := 0
	for _, n := range w.list() {
		all += n
	}
	at := r.IntN(all)
	for k, n := range w.list() {
		if at < n {
			return k + 1
		}
		at -= n
	}
	return 0
}

var weathers = map[string]weather{
	"calm":   {timeout: 2, beat: 4, append: 20, read: 2, deliver: 80, drop: 1, dup: 1, restart: 1, snap: 3, dump: 2},
	"stormy": {timeout: 6, beat: 4, append: 20, read: 2, deliver: 120, drop: 5, dup: 3, crash: 1, fuse: 1, restart: 4, room: 1, snap: 4, dump: 2, wrong: 2},
	"quiet":  {timeout: 6, beat: 4, append: 10, read: 2, deliver: 90, drop: 10, dup: 3, restart: 2, snap: 4, dump: 2},
	"broken": {timeout: 8, beat: 4, append: 20, read: 2, deliver: 140, drop: 2, dup: 2, crash: 1, fuse: 6, restart: 12, room: 1, snap: 5, dump: 2, wrong: 1},
	"flood":  {timeout: 2, beat: 20, append: 10, deliver: 60, dup: 10, drop: 1, restart: 1, snap: 2},
}

// newestLeader is the leader of the greatest term, or 0.
func (c *modelCluster) newestLeader() int {
	lead, term := 0, 0
	for _, n := range c.nodes {
		if n.role == 4 && n.term() > term {
			lead, term = n.number, n.term()
		}
	}
	return lead
}

func randomEvent(r *rand.Rand, w weather, c *modelCluster, seqs []int) impl.Event {
	e := impl.Event{Kind: w.kind(r), Node: 1 + r.IntN(len(c.nodes))}
	// Most of what asks for a leader goes to one, and where there is one nodes are patient, or nothing would ever be committed.
	if lead := c.newestLeader(); lead > 0 && r.IntN(8) > 0 {
		switch e.Kind {
		case impl.EvAppend, impl.EvBeat:
			e.Node = lead
		case impl.EvTimeout:
			e.Kind = impl.EvDeliver
		}
	}
	if e.Kind == impl.EvAppend && len(c.flight) > 20 && r.IntN(4) > 0 {
		e.Kind = impl.EvDeliver
	}
	switch e.Kind {
	case impl.EvAppend:
		e.A = 1 + r.IntN(len(seqs))
		if e.B = seqs[e.A-1]; e.B == 0 || r.IntN(4) > 0 {
			e.B++
		}
		seqs[e.A-1] = e.B
		e.Data = randomBytes(r, []int{0, 1, 5, 30, 64}[r.IntN(5)])
		if r.IntN(6) == 0 {
			e.B, e.Data = 1+r.IntN(e.B), nil
		}
	case impl.EvRead:
		e.A = r.IntN(6 + len(seqs)*4)
	case impl.EvDeliver, impl.EvDrop, impl.EvDup:
		e.Node, e.A = r.IntN(4), 1+r.IntN(1+len(c.flight))
		if r.IntN(3) > 0 {
			e.A = 1
		}
	case impl.EvFuse:
		e.A = r.IntN(24) - 1
	case impl.EvRestart:
		e.Data = randomChoice(r)
	case impl.EvCap:
		e.A = []int{0, 60, 150, 400, 1000, 9999, 9999}[r.IntN(7)]
	case 14:
		wrong := []int{-1, 0, 8, 14, 51, math.MaxInt, math.MinInt}
		pick := func() int { return wrong[r.IntN(len(wrong))] }
		e = impl.Event{Kind: 1 + r.IntN(13), Node: 1 + r.IntN(len(c.nodes)), A: 1, B: 1, Data: randomBytes(r, r.IntN(70))}
		switch r.IntN(3) {
		case 0:
			e.Kind = pick()
		case 1:
			e.Node = pick()
		default:
			e.A = pick()
		}
	}
	return e
}

// someNodes is most often three, the number with which most comes to pass.
func someNodes(r *rand.Rand) int { return []int{1, 2, 3, 3, 3, 3, 4, 5, 5, 6, 7}[r.IntN(11)] }

// randomPlay plays a script of that many events.
func randomPlay(t *testing.T, r *rand.Rand, w weather, nodes, room, events int) *play {
	p := newPlay(t, nodes, room)
	seqs := make([]int, 1+r.IntN(4))
	for range events {
		p.do(randomEvent(r, w, p.model, seqs))
	}
	return p
}

// Promise 11: random scripts are seen as the model, which follows chapter 7 word by word, tells.
func TestClusterAgainstModel(t *testing.T) {
	for name, w := range weathers {
		t.Run(name, func(t *testing.T) {
			t.Parallel()
			r := rand.New(rand.NewPCG(uint64(len(name)), 7))
			for range 300 {
				room := []int{30, 300, 2000, 20000, math.MaxInt}[r.IntN(5)]
				randomPlay(t, r, w, someNodes(r), room, r.IntN(800)).end()
			}
		})
	}
}
