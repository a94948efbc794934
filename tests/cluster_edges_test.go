package tests

import (
	"fmt"
	"math"
	"testing"

	"loop.example/s01723/impl"
)

// Promise 11: how many nodes and events there may be, and which code comes first.
func TestClusterBounds(t *testing.T) {
	many := make([]impl.Event, impl.MaxEvents+1)
	for _, nodes := range []int{0, -1, 8, math.MaxInt, math.MinInt} {
		for _, events := range [][]impl.Event{nil, {evTimeout(1)}, many} {
			if r := impl.ClusterRun(nodes, room, events); r.Code != impl.ErrRange || len(r.Obs) != 0 {
				t.Errorf("%d nodes, %d events: code %d, %d observations", nodes, len(events), r.Code, len(r.Obs))
			}
		}
	}
	for nodes := 1; nodes <= 7; nodes++ {
		if r := impl.ClusterRun(nodes, room, nil); r.Code != impl.OK || len(r.Obs) != 0 {
			t.Errorf("%d nodes, no events: code %d, %d observations", nodes, r.Code, len(r.Obs))
		}
		if r := impl.ClusterRun(nodes, room, many); r.Code != impl.ErrLarge || len(r.Obs) != 0 {
			t.Errorf("%d nodes, too many events: code %d, %d observations", nodes, r.Code, len(r.Obs))
		}
		if r := impl.ClusterRun(nodes, room, many[1:]); r.Code != impl.OK || len(r.Obs) != impl.MaxEvents || r.Obs[impl.MaxEvents-1].Code != impl.ErrKind {
			t.Errorf("%d nodes, as many events as may be: code %d, %d observations", nodes, r.Code, len(r.Obs))
		}
	}
}

// Promise 11: any capacity may be handed in; a node whose first segment finds no room has failed.
func TestClusterCapacity(t *testing.T) {
	for _, c := range []struct {
		room int
		want string
	}{
		{math.MinInt, `code 9, failed`}, {-1, `code 9, failed`}, {0, `code 9, failed`}, {35, `code 9, failed`},
		{36, `code 6, failed`}, {36 + 28, `code 6, failed`}, {36 + 28 + 28, `leader 1.1 1/1 s0 0-0`},
		{impl.MaxImage + 1, `leader 1.1 1/1 s0 0-0`}, {math.MaxInt, `leader 1.1 1/1 s0 0-0`},
	} {
		p := newPlay(t, 1, c.room)
		p.do(evTimeout(1), c.want)
		p.end()
	}
}

// Promise 11: an unknown kind comes ahead of all else; no view goes with it.
func TestClusterKinds(t *testing.T) {
	for _, kind := range []int{0, -1, 14, 15, 255, math.MaxInt, math.MinInt} {
		for _, node := range []int{1, 2, 0, 3, -1, math.MaxInt} {
			p := newPlay(t, 2, room)
			p.elect(1)
			p.do(evBeat(1))
			p.do(evCrash(2))
			p.do(impl.Event{Kind: kind, Node: node, A: 1, B: 1, Data: []byte("x")}, fmt.Sprintf("code %d, down", impl.ErrKind))
			p.do(evDrop(1), `down`)
			p.do(evDrop(1), `code 3, down`)
			p.end()
		}
	}
}

// eachKind is an event of every kind for a node; a place in flight is the first.
func eachKind(n int) []impl.Event {
	return []impl.Event{
		evTimeout(n), evBeat(n), evAppend(n, 1, 1, "x"), evRead(n, 0), evDeliver(1), evDrop(1), evDup(1),
		evCrash(n), evFuse(n, 3), evRestart(n), evCap(n, 999), evSnap(n), evDump(n),
	}
}

// Promise 11: a number that is no node's comes ahead of what the event asks, but where it isn't asked for.
func TestClusterNodeNumbers(t *testing.T) {
	for _, node := range []int{0, 3, 8, -1, math.MaxInt, math.MinInt} {
		for _, e := range eachKind(node) {
			e.Node = node
			p := newPlay(t, 2, room)
			p.elect(1)
			p.do(evBeat(1))
			switch e.Kind {
			case impl.EvDeliver:
				p.do(e, `follower 1.1 1/1 s0 0-0, answer 2>1 t1 1/0 yes`)
			case impl.EvDrop, impl.EvDup:
				p.do(e, `down`)
			default:
				p.do(e, `code 5, down`)
			}
			p.end()
		}
	}
	// Wrong both in the number and in the rest: the number comes first.
	p := newPlay(t, 1, room)
	p.do(evAppend(2, 0, 0, ""), `code 5, down`)
	p.do(evRead(0, -1), `code 5, down`)
	p.do(evTimeout(7), `code 5, down`)
	p.end()
}

// Promise 11: every kind in a node that is down; a message to it has left its place all the same.
func TestClusterDown(t *testing.T) {
	for _, e := range eachKind(2) {
		p := newPlay(t, 2, room)
		p.elect(1)
		p.do(evBeat(1))
		p.do(evCrash(2), `down`)
		switch e.Kind {
		case impl.EvRestart:
			p.do(e, `follower 1.1 0/1 s0 0-0`)
		case impl.EvDrop, impl.EvDup:
			p.do(e, `down`)
		default:
			p.do(e, `code 11, down`)
		}
		if left := len(p.model.flight); (left == 0) != (e.Kind == impl.EvDeliver || e.Kind == impl.EvDrop) {
			t.Fatalf("kind %d leaves %d in flight", e.Kind, left)
		}
		p.do(evDrop(1))
		p.do(evRestart(2), `follower 1.1 0/1 s0 0-0`)
		p.do(evTimeout(2), `candidate 2.2 0/1 s0 0-0, ask 2>1 t2 1/1`)
		p.end()
	}
}

// Promise 14: every kind in a node that has failed: it sends and tells nothing until it restarts.
func TestClusterFailed(t *testing.T) {
	for _, e := range eachKind(2) {
		p := newPlay(t, 2, room)
		p.elect(2)
		p.do(evAppend(2, 1, 1, "x"))
		p.deliver(entries, 2, 1)
		p.do(evFuse(2, 1))
		p.do(evAppend(2, 1, 2, "y"), `code 7, failed`)
		switch e.Kind {
		case impl.EvRestart:
			p.do(e, `follower 1.2 0/2 s0 0-0`)
		case impl.EvDrop, impl.EvDup, impl.EvCrash:
			p.do(e, `down`)
		case impl.EvFuse, impl.EvCap:
			p.do(e, `failed`)
		default:
			p.do(e, `code 9, failed`)
		}
		if left := len(p.model.flight); (left == 0) != (e.Kind == impl.EvDeliver || e.Kind == impl.EvDrop) {
			t.Fatalf("kind %d leaves %d in flight", e.Kind, left)
		}
		p.do(evDrop(1))
		p.do(evRestart(2), `follower 1.2 0/2 s0 0-0`)
		p.do(evTimeout(2), `candidate 2.2 0/2 s0 0-0, ask 2>1 t2 2/1`)
		p.end()
	}
}

// Promise 11: places in flight are counted from 1; behind one that is left the others move up.
func TestClusterPlaces(t *testing.T) {
	p := newPlay(t, 3, room)
	for _, place := range []int{0, 1, -1, math.MaxInt, math.MinInt} {
		p.do(evDeliver(place), `code 3, down`)
		p.do(evDrop(place), `code 3, down`)
		p.do(evDup(place), `code 3, down`)
	}
	p.elect(1)
	p.do(evBeat(1))
	for _, place := range []int{0, 3, -1, math.MaxInt, math.MinInt} {
		p.do(evDeliver(place), `code 3, down`)
		p.do(evDrop(place), `code 3, down`)
		p.do(evDup(place), `code 3, down`)
	}
	p.do(evDup(1), `down`)
	p.do(evDrop(1), `down`)
	p.do(evDeliver(3), `code 3, down`)
	p.do(evDeliver(1), `follower 1.1 1/1 s0 0-0, answer 3>1 t1 1/0 yes`)
	p.do(evDeliver(1), `follower 1.1 1/1 s0 0-0, answer 2>1 t1 1/0 yes`)
	p.do(evDeliver(2), `leader 1.1 1/1 s0 0-0`)
	p.do(evDeliver(1), `leader 1.1 1/1 s0 0-0`)
	p.do(evDeliver(1), `code 3, down`)
	p.end()
}

// fullFlight has node 1 of seven lead, with beats until no more than that many places in flight are free.
func fullFlight(t *testing.T, free int) *play {
	p := newPlay(t, 7, room)
	p.elect(1)
	for len(p.model.flight) <= impl.MaxFlight-6-free {
		p.do(evBeat(1))
	}
	for len(p.model.flight) < impl.MaxFlight-free {
		p.do(evDup(1))
	}
	return p
}

// Promise 11: what would be more than MaxFlight in flight is lost, but seen.
func TestClusterFullFlight(t *testing.T) {
	const beat = `leader 1.1 1/1 s0 0-0, append 1>2 t1 1/1 c1, append 1>3 t1 1/1 c1, append 1>4 t1 1/1 c1, append 1>5 t1 1/1 c1, append 1>6 t1 1/1 c1, append 1>7 t1 1/1 c1`
	for free := range 7 {
		p := fullFlight(t, free)
		p.do(evBeat(1), beat)
		if len(p.model.flight) != impl.MaxFlight {
			t.Fatalf("%d in flight", len(p.model.flight))
		}
		p.do(evDrop(impl.MaxFlight+1), `code 3, down`)
		p.do(evDup(1), `down`)
		p.do(evDrop(impl.MaxFlight+1), `code 3, down`)
		p.do(evBeat(1), beat)
		p.do(evDrop(impl.MaxFlight+1), `code 3, down`)
		// The first that were sent have found room: the last one in flight is for node free + 1.
		if free > 0 {
			p.do(evDeliver(impl.MaxFlight), fmt.Sprintf(`follower 1.1 1/1 s0 0-0, answer %d>1 t1 1/0 yes`, free+1))
		}
		// Its answer has taken the place that the message has left.
		p.do(evDup(1), `down`)
		p.do(evDrop(impl.MaxFlight+1), `code 3, down`)
		p.do(evDrop(impl.MaxFlight), `down`)
		p.do(evDrop(impl.MaxFlight), `code 3, down`)
		p.do(evDup(3), `down`)
		p.do(evDrop(impl.MaxFlight), `down`)
		p.end()
	}
}

// Promise 11: the view goes with every code.
func TestClusterViews(t *testing.T) {
	p := newPlay(t, 3, room)
	p.elect(2)
	p.do(evAppend(2, 1, 1, "x"))
	p.deliverAll()
	const lead, follow = `leader 1.2 2/2 s0 0-1`, `follower 1.2 1/2 s0 0-0`
	p.do(evTimeout(2), `code 12, `, lead)
	p.do(evBeat(1), `code 12, `, follow)
	p.do(evAppend(1, 1, 1, "x"), `code 12, `, follow)
	// Not the leader: this comes ahead of what is no item.
	p.do(evAppend(1, 0, 0, "x"), `code 12, `, follow)
	p.do(evAppend(2, 0, 1, "x"), `code 5, `, lead)
	p.do(evAppend(2, 51, 1, "x"), `code 5, `, lead)
	p.do(evAppend(2, math.MinInt, 1, "x"), `code 5, `, lead)
	p.do(evAppend(2, 1<<32+1, 2, "x"), `code 5, `, lead)
	p.do(evAppend(2, 1, 0, "x"), `code 5, `, lead)
	p.do(evAppend(2, 1, impl.MaxSeq+1, "x"), `code 5, `, lead)
	p.do(evAppend(2, 1, 1, string(make([]byte, 65))), `code 5, `, lead)
	p.do(evRead(2, -1), `code 5, `, lead)
	p.do(evRead(2, math.MinInt), `code 5, `, lead)
	p.do(evRead(2, 1), `code 13, `, lead)
	p.do(evRead(2, math.MaxInt), `code 13, `, lead)
	p.do(evRead(1, 0), `code 13, `, follow)
	p.do(evSnap(2), `leader 1.2 2/2 s2 1-1`)
	p.do(evSnap(2), `code 3, leader 1.2 2/2 s2 1-1`)
	p.do(evRead(2, 0), `code 14, leader 1.2 2/2 s2 1-1`)
	p.do(evRead(2, 1), `code 13, leader 1.2 2/2 s2 1-1`)
	p.do(evTimeout(3), `candidate 2.3 1/2 s0 0-0, ask 3>1 t2 2/1, ask 3>2 t2 2/1`)
	p.do(evBeat(3), `code 12, candidate 2.3 1/2 s0 0-0`)
	p.do(evAppend(3, 1, 1, "x"), `code 12, candidate 2.3 1/2 s0 0-0`)
	p.end()

	p = newPlay(t, 1, room)
	p.do(evSnap(1), `code 3, follower`)
	p.do(evRead(1, 0), `code 13, follower`)
	p.do(evDump(1), `follower`)
	p.do(evTimeout(1))
	p.do(evAppend(1, 50, impl.MaxSeq, string(make([]byte, 64))))
	p.do(evAppend(1, 50, impl.MaxSeq, string(make([]byte, 64))), `leader 1.1 3/3 s0 0-1, at 3, ack 1: 50.1000000000 at 0 by 3`)
	p.end()
}
