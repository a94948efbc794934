package tests

import (
	"fmt"
	"math/rand/v2"
	"testing"

	"loop.example/s01723/impl"
)

// situation is a play up to an event of one node, and how many steps its disk makes in that event.
type situation struct {
	what  string
	nodes int
	begin func(p *play) (impl.Event, int)
	steps int
}

// led has node 1 lead three, all of which have committed that many items; with four of them a segment is full.
func led(p *play, items int) {
	p.elect(1)
	for k := range items {
		p.do(evAppend(1, 1, k+1, "0123456789"))
		p.deliverAll()
	}
	p.do(evBeat(1))
	p.deliverAll()
}

func toPlace(p *play, kind, from, to int) (impl.Event, int) {
	return evDeliver(p.lastPlace(kind, from, to)), to
}

// A vote is 5 steps, an append or a cut 2 (6 if the log rolls), a snapshot 9, with another one ahead of it 2 more, 2 for each old segment.
func situations() []situation {
	return []situation{
		{"a timeout", 3, func(p *play) (impl.Event, int) { return evTimeout(2), 2 }, 5},
		{"a timeout that elects", 1, func(p *play) (impl.Event, int) { return evTimeout(1), 1 }, 7},
		{"a beat", 3, func(p *play) (impl.Event, int) { led(p, 1); return evBeat(1), 1 }, 0},
		{"an append", 3, func(p *play) (impl.Event, int) { led(p, 1); return evAppend(1, 2, 1, "x"), 1 }, 2},
		{"an append alone", 1, func(p *play) (impl.Event, int) { p.elect(1); return evAppend(1, 2, 1, "x"), 1 }, 2},
		{"an append that rolls", 3, func(p *play) (impl.Event, int) { led(p, 4); return evAppend(1, 2, 1, "x"), 1 }, 6},
		{"a read", 3, func(p *play) (impl.Event, int) { led(p, 1); return evRead(1, 0), 1 }, 0},
		{"a dump", 3, func(p *play) (impl.Event, int) { led(p, 1); return evDump(1), 1 }, 0},
		{"a snapshot", 3, func(p *play) (impl.Event, int) { led(p, 1); return evSnap(1), 1 }, 9},
		{"a second snapshot", 3, func(p *play) (impl.Event, int) {
			led(p, 1)
			p.do(evSnap(2))
			p.do(evAppend(1, 2, 1, "x"))
			p.deliverAll()
			p.do(evBeat(1))
			p.deliverAll()
			return evSnap(2), 2
		}, 11},
		{"a snapshot behind segments", 3, func(p *play) (impl.Event, int) { led(p, 11); return evSnap(3), 3 }, 13},
		{"a question of a greater term", 3, func(p *play) (impl.Event, int) {
			led(p, 1)
			p.do(evTimeout(2))
			return toPlace(p, ask, 2, 1)
		}, 10},
		{"a question of a greater term, refused", 3, func(p *play) (impl.Event, int) {
			led(p, 1)
			p.do(evAppend(1, 2, 1, "x"))
			p.do(evTimeout(2))
			return toPlace(p, ask, 2, 1)
		}, 5},
		{"a question of the own term, refused", 3, func(p *play) (impl.Event, int) {
			led(p, 1)
			p.do(evAppend(1, 2, 1, "x"))
			p.dropAll()
			p.do(evTimeout(2))
			p.deliver(ask, 2, 1)
			p.do(evTimeout(3))
			return toPlace(p, ask, 3, 1)
		}, 0},
		{"a question of the own term, with no vote yet", 3, func(p *play) (impl.Event, int) {
			led(p, 1)
			p.do(evAppend(1, 2, 1, "x"))
			p.deliver(entries, 1, 3)
			p.dropAll()
			p.do(evTimeout(2))
			p.deliver(ask, 2, 1)
			p.do(evTimeout(3))
			return toPlace(p, ask, 3, 1)
		}, 5},
		{"a vote that elects", 3, func(p *play) (impl.Event, int) {
			p.do(evTimeout(1))
			p.deliver(ask, 1, 3)
			return toPlace(p, vote, 3, 1)
		}, 2},
		{"a vote that doesn't", 5, func(p *play) (impl.Event, int) {
			p.do(evTimeout(1))
			p.deliver(ask, 1, 3)
			return toPlace(p, vote, 3, 1)
		}, 0},
		{"a vote of a greater term", 3, func(p *play) (impl.Event, int) {
			p.do(evTimeout(1))
			p.do(evTimeout(3))
			p.do(evTimeout(3))
			p.deliver(ask, 1, 3)
			return toPlace(p, vote, 3, 1)
		}, 5},
		{"entries", 3, func(p *play) (impl.Event, int) {
			led(p, 1)
			p.do(evAppend(1, 2, 1, "x"))
			return toPlace(p, entries, 1, 2)
		}, 2},
		{"several entries", 3, func(p *play) (impl.Event, int) {
			led(p, 1)
			for k := range 6 {
				p.do(evAppend(1, 2, k+1, "sixteen bytes .."))
			}
			return toPlace(p, entries, 1, 2)
		}, 2},
		{"entries that are there", 3, func(p *play) (impl.Event, int) {
			led(p, 1)
			p.do(evAppend(1, 2, 1, "x"))
			p.do(evDup(p.place(entries, 1, 2)))
			p.deliver(entries, 1, 2)
			return toPlace(p, entries, 1, 2)
		}, 0},
		{"entries of a greater term", 3, func(p *play) (impl.Event, int) {
			led(p, 1)
			p.do(evTimeout(2))
			p.deliver(ask, 2, 3)
			p.deliver(vote, 3, 2)
			return toPlace(p, entries, 2, 1)
		}, 7},
		{"entries of a greater term that cut", 3, func(p *play) (impl.Event, int) {
			cutAhead(p)
			return toPlace(p, entries, 2, 1)
		}, 9},
		{"entries that cut", 3, func(p *play) (impl.Event, int) {
			cutAhead(p)
			p.deliver(ask, 2, 1)
			return toPlace(p, entries, 2, 1)
		}, 4},
		{"entries that cut, and then roll", 3, func(p *play) (impl.Event, int) {
			cutFull(p, "x")
			return toPlace(p, entries, 2, 1)
		}, 8},
		{"entries that roll for the cut", 3, func(p *play) (impl.Event, int) {
			cutFull(p, "sixteen bytes ..")
			return toPlace(p, entries, 2, 1)
		}, 8},
		{"entries that don't fit, of a greater term", 3, func(p *play) (impl.Event, int) {
			led(p, 1)
			p.do(evAppend(1, 2, 1, "x"))
			p.deliver(entries, 1, 2)
			p.dropAll()
			p.do(evTimeout(2))
			p.deliver(ask, 2, 1)
			p.deliver(vote, 1, 2)
			return toPlace(p, entries, 2, 3)
		}, 5},
		{"a beat of no entries that commits", 3, func(p *play) (impl.Event, int) {
			p.elect(1)
			p.do(evBeat(1))
			return toPlace(p, entries, 1, 2)
		}, 0},
		{"an answer that commits", 3, func(p *play) (impl.Event, int) {
			led(p, 1)
			p.do(evAppend(1, 2, 1, "x"))
			p.deliver(entries, 1, 2)
			return toPlace(p, answer, 2, 1)
		}, 0},
		{"an answer of a greater term", 3, func(p *play) (impl.Event, int) {
			led(p, 1)
			p.do(evBeat(1))
			p.do(evTimeout(2))
			p.deliver(entries, 1, 2)
			return toPlace(p, answer, 2, 1)
		}, 5},
		{"an install", 3, func(p *play) (impl.Event, int) {
			lagging(p)
			return toPlace(p, install, 1, 3)
		}, 11},
		{"an install that comes again", 3, func(p *play) (impl.Event, int) {
			lagging(p)
			p.do(evDup(p.place(install, 1, 3)))
			p.deliver(install, 1, 3)
			return toPlace(p, install, 1, 3)
		}, 0},
		{"a second install", 3, func(p *play) (impl.Event, int) {
			lagging(p)
			p.deliver(install, 1, 3)
			p.dropAll()
			p.do(evAppend(1, 3, 1, "z"))
			p.deliver(entries, 1, 2)
			p.deliver(answer, 2, 1)
			p.do(evSnap(1))
			p.dropAll()
			p.do(evBeat(1))
			return toPlace(p, install, 1, 3)
		}, 13},
		{"an install of a greater term", 3, func(p *play) (impl.Event, int) {
			p.do(evTimeout(1))
			p.deliver(ask, 1, 2)
			p.deliver(vote, 2, 1)
			p.deliver(entries, 1, 2)
			p.deliver(answer, 2, 1)
			p.do(evSnap(1))
			p.dropAll()
			p.do(evBeat(1))
			return toPlace(p, install, 1, 3)
		}, 16},
	}
}

// cutAhead has node 2 lead with an entry that stands where node 1 has other ones.
func cutAhead(p *play) {
	led(p, 1)
	p.do(evAppend(1, 2, 1, "x"))
	p.do(evAppend(1, 2, 2, "y"))
	p.dropAll()
	p.do(evTimeout(2))
	p.deliver(ask, 2, 3)
	p.deliver(vote, 3, 2)
}

// cutFull has node 2 lead with an entry that stands where node 1 has one with that value, which may have filled its segment.
func cutFull(p *play, value string) {
	led(p, 3)
	p.do(evAppend(1, 2, 1, value))
	p.dropAll()
	p.do(evTimeout(2))
	p.deliver(ask, 2, 3)
	p.deliver(vote, 3, 2)
	p.deliver(ask, 2, 1)
}

// lagging has node 1 lead with a snapshot that node 3 lacks, and a beat in flight.
func lagging(p *play) {
	led(p, 1)
	p.do(evAppend(1, 2, 1, "x"))
	p.deliver(entries, 1, 2)
	p.deliver(answer, 2, 1)
	p.do(evSnap(1))
	p.dropAll()
	p.do(evBeat(1))
}

func (s situation) play(t *testing.T) (*play, impl.Event, int) {
	p := newPlay(t, s.nodes, room)
	e, n := s.begin(p)
	return p, e, n
}

// Promises 11 and 14: each event, cut off at each of its steps: the step's code, nothing sent, nothing acknowledged; and a restart behind it
// finds what the model finds.
func TestClusterSteps(t *testing.T) {
	r := rand.New(rand.NewPCG(4, 11))
	for _, s := range situations() {
		t.Run(s.what, func(t *testing.T) {
			p, e, n := s.play(t)
			p.do(evFuse(n, s.steps))
			if o := p.do(e); o.Code != impl.OK || o.View.Role == impl.RoleFailed {
				t.Fatalf("with %d steps: %s", s.steps, tellObs(o))
			}
			p.end()
			for k := range s.steps {
				for _, choice := range [][]byte{nil, {255, 255, 255, 255, 255, 255}, randomChoice(r), randomChoice(r)} {
					p, e, n := s.play(t)
					left := len(p.model.flight)
					p.do(evFuse(n, k))
					p.do(e, fmt.Sprintf("code %d, failed", impl.ErrPower))
					if e.Kind == impl.EvDeliver {
						left--
					}
					if len(p.model.flight) != left {
						t.Fatalf("%d in flight, want %d", len(p.model.flight), left)
					}
					p.do(evBeat(n), fmt.Sprintf("code %d, failed", impl.ErrFailed))
					p.do(evRestart(n, choice...))
					p.do(evDump(n))
					p.do(evTimeout(n))
					p.deliverAll()
					p.end()
				}
			}
		})
	}
}

// Promises 11 and 14: a disk without room refuses the first write of each event that makes one.
func TestClusterNoRoom(t *testing.T) {
	for _, s := range situations() {
		p, e, n := s.play(t)
		p.do(evCap(n, 0))
		if s.steps > 0 {
			p.do(e, fmt.Sprintf("code %d, failed", impl.ErrFull))
			p.do(evTimeout(n), fmt.Sprintf("code %d, failed", impl.ErrFailed))
			p.do(evRestart(n))
		} else if o := p.do(e); o.Code != impl.OK {
			t.Errorf("%s without room: %s", s.what, tellObs(o))
		}
		p.end()
	}
}
