package tests

import (
	"testing"

	"loop.example/s01723/impl"
)

// Promise 11: a message of a greater term of each kind makes a leader a follower of that term, ahead of what it says.
func TestClusterGreaterTerm(t *testing.T) {
	p := newPlay(t, 3, room)
	p.elect(1)
	p.do(evTimeout(2), `candidate 2.2 0/1 s0 0-0, ask 2>1 t2 1/1, ask 2>3 t2 1/1`)
	p.deliver(ask, 2, 1, `follower 2.2 1/1 s0 0-0, vote 1>2 t2 0/0 yes`)
	p.end()

	// A vote that is refused by a node of a greater term.
	p = newPlay(t, 3, room)
	p.do(evTimeout(3))
	p.do(evTimeout(3))
	p.do(evTimeout(1))
	p.deliver(ask, 1, 3, `candidate 2.3 0/0 s0 0-0, vote 3>1 t2 0/0`)
	p.deliver(ask, 1, 2, `follower 1.1 0/0 s0 0-0, vote 2>1 t1 0/0 yes`)
	p.deliver(vote, 2, 1, `leader 1.1 0/1 s0 0-0, append 1>2 t1 0/0 +1, append 1>3 t1 0/0 +1`)
	p.deliver(vote, 3, 1, `follower 2.0 0/1 s0 0-0`)
	p.end()

	// Entries of a new leader; and a yes to a question of its own that comes too late.
	p = newPlay(t, 3, room)
	p.elect(1)
	p.do(evTimeout(2))
	p.deliver(ask, 2, 3)
	p.deliver(vote, 3, 2)
	p.deliver(entries, 2, 1, `follower 2.0 1/2 s0 0-0, answer 1>2 t2 2/0 yes`)
	p.deliver(ask, 2, 1, `follower 2.0 1/2 s0 0-0, vote 1>2 t2 0/0`)
	p.deliver(vote, 1, 2, `leader 2.2 0/2 s0 0-0`)
	p.end()

	// An answer of a node that has gone on.
	p = newPlay(t, 3, room)
	p.elect(1)
	p.do(evBeat(1))
	p.do(evTimeout(2))
	p.deliver(entries, 1, 2, `candidate 2.2 0/1 s0 0-0, answer 2>1 t2 0/0`)
	p.deliver(answer, 2, 1, `follower 2.0 1/1 s0 0-0`)
	p.do(evAppend(1, 1, 1, ""), `code 12, follower 2.0 1/1 s0 0-0`)
	p.do(evBeat(1), `code 12, follower 2.0 1/1 s0 0-0`)
	p.end()
}

// behindSnap makes node 1 leader of three with a snapshot at 3 and a last of 4; node 3 has nothing behind 1 and its install is in flight.
func behindSnap(t *testing.T) *play {
	p := newPlay(t, 3, room)
	p.elect(1)
	for k := range 2 {
		p.do(evAppend(1, 1, k+1, "a"))
		p.do(evDrop(p.place(entries, 1, 3)))
		p.deliverAll()
	}
	p.do(evSnap(1), `leader 1.1 3/3 s3 2-2`)
	p.do(evAppend(1, 2, 1, "b"), `leader 1.1 3/4 s3 2-2, at 4, append 1>2 t1 3/1 c3 +1:2.1"b", install 1>3 t1 3/1 `+stateHex)
	return p
}

// stateHex is a service of two items whose one client has appended "a" twice.
const stateHex = "02000000000000000100000000000000" + "0100000000000000" + "0200000000000000" + "0100000000000000" + "0100000000000000" + "61"

// Promise 11: an install makes a leader of a smaller term a follower too, and a candidate of its own term.
func TestClusterInstallTerms(t *testing.T) {
	p := behindSnap(t)
	p.do(evDrop(p.place(entries, 1, 2)))
	p.do(evDrop(p.place(install, 1, 3)))
	p.do(evRestart(1), `follower 1.1 3/4 s3 2-2`)
	p.do(evTimeout(1), `candidate 2.1 3/4 s3 2-2, ask 1>2 t2 4/1, ask 1>3 t2 4/1`)
	p.deliver(ask, 1, 2)
	p.deliver(vote, 2, 1, `leader 2.1 3/5 s3 2-2, append 1>2 t2 4/1 c3 +2, append 1>3 t2 4/1 c3 +2`)
	p.deliver(entries, 1, 3, `follower 2.0 0/1 s0 0-0, answer 3>1 t2 1/0`)
	p.deliver(answer, 3, 1, `leader 2.1 3/5 s3 2-2, install 1>3 t2 3/1 `+stateHex)
	for range 3 {
		p.do(evDup(p.place(install, 1, 3)))
	}
	p.do(evRestart(3))
	p.deliver(install, 1, 3, `follower 2.0 3/3 s3 2-2, answer 3>1 t2 3/0 yes`)
	p.do(evTimeout(3), `candidate 3.3 3/3 s3 2-2, ask 3>1 t3 3/1, ask 3>2 t3 3/1`)
	p.deliver(install, 1, 3, `candidate 3.3 3/3 s3 2-2, answer 3>1 t3 0/0`)
	p.deliver(answer, 3, 1, `leader 2.1 3/5 s3 2-2, append 1>3 t2 3/1 c3 +1:2.1"b" +2`)
	p.deliver(answer, 3, 1, `follower 3.0 3/5 s3 2-2`)
	p.do(evTimeout(1), `candidate 4.1 3/5 s3 2-2, ask 1>2 t4 5/2, ask 1>3 t4 5/2`)
	p.end()

	// The first that node 3 hears of the leader of term 2 is an install: as a follower, as a candidate of that term, as a leader of the term before.
	for role, want := range map[int]string{2: `follower 2.0 2/2 s2 1-1`, 3: `follower 2.3 2/2 s2 1-1`, 4: `follower 2.0 2/2 s2 1-1`} {
		p = newPlay(t, 3, room)
		switch role {
		case 3:
			p.do(evTimeout(3))
			p.do(evTimeout(3), `candidate 2.3 0/0 s0 0-0, ask 3>1 t2 0/0, ask 3>2 t2 0/0`)
		case 4:
			p.do(evTimeout(3))
			p.deliver(ask, 3, 2)
			p.deliver(vote, 2, 3, `leader 1.3 0/1 s0 0-0, append 3>1 t1 0/0 +1, append 3>2 t1 0/0 +1`)
		}
		p.dropAll()
		p.do(evTimeout(1))
		p.do(evTimeout(1))
		p.deliver(ask, 1, 2)
		p.do(evDrop(p.place(ask, 1, 3)))
		p.deliver(ask, 1, 2)
		p.do(evDrop(p.place(ask, 1, 3)))
		p.do(evDeliver(p.lastPlace(vote, 2, 1)), `leader 2.1 0/1 s0 0-0, append 1>2 t2 0/0 +2, append 1>3 t2 0/0 +2`)
		p.do(evAppend(1, 5, 1, "x"))
		p.do(evDeliver(p.lastPlace(entries, 1, 2)))
		p.deliver(answer, 2, 1, `leader 2.1 2/2 s0 0-1, ack 1: 5.1 at 0 by 2`)
		p.do(evSnap(1), `leader 2.1 2/2 s2 1-1`)
		p.dropAll()
		p.do(evBeat(1))
		p.deliver(install, 1, 3, want, `, answer 3>1 t2 2/0 yes`)
		p.do(evDump(3), want, `, base 1 session 5 1 0 78`)
		p.deliver(answer, 3, 1, `leader 2.1 2/2 s2 1-1`)
		p.end()
	}
}

// Promise 11: a candidate follows who was elected in its term.
func TestClusterCandidateFollows(t *testing.T) {
	p := newPlay(t, 3, room)
	p.do(evTimeout(1))
	p.do(evTimeout(2))
	p.deliver(ask, 1, 3)
	p.deliver(vote, 3, 1)
	p.do(evDup(p.place(entries, 1, 2)))
	p.deliver(entries, 1, 2, `follower 1.2 0/1 s0 0-0, answer 2>1 t1 1/0 yes`)
	// Its own vote stays; that of another comes too late.
	p.deliver(ask, 2, 3, `follower 1.1 0/0 s0 0-0, vote 3>2 t1 0/0`)
	p.do(evTimeout(2))
	p.deliver(entries, 1, 2, `candidate 2.2 0/1 s0 0-0, answer 2>1 t2 0/0`)
	p.end()

	// A candidate whose log doesn't go with what comes is a follower all the same.
	p = newPlay(t, 3, room)
	p.elect(1)
	p.do(evAppend(1, 1, 1, "x"))
	p.dropAll()
	p.do(evRestart(1))
	p.do(evTimeout(1))
	p.do(evTimeout(3))
	p.deliver(ask, 1, 2)
	p.deliver(vote, 2, 1, `leader 2.1 0/3 s0 0-0, append 1>2 t2 2/1 +2, append 1>3 t2 2/1 +2`)
	p.deliver(entries, 1, 3, `follower 2.3 0/1 s0 0-0, answer 3>1 t2 1/0`)
	p.end()
}

// Promise 11: a message of a smaller term of each kind: questions are answered with a no, answers change nothing.
func TestClusterSmallerTerm(t *testing.T) {
	p := newPlay(t, 3, room)
	p.do(evTimeout(1))
	p.do(evTimeout(2))
	p.do(evTimeout(2))
	p.deliver(ask, 1, 2, `candidate 2.2 0/0 s0 0-0, vote 2>1 t2 0/0`)
	p.deliver(ask, 1, 3, `follower 1.1 0/0 s0 0-0, vote 3>1 t1 0/0 yes`)
	p.do(evTimeout(1), `candidate 2.1 0/0 s0 0-0, ask 1>2 t2 0/0, ask 1>3 t2 0/0`)
	p.deliver(vote, 3, 1, `candidate 2.1 0/0 s0 0-0`)
	p.deliver(vote, 2, 1, `candidate 2.1 0/0 s0 0-0`)
	p.end()

	p = newPlay(t, 3, room)
	p.elect(1)
	p.do(evBeat(1), `leader 1.1 1/1 s0 0-0, append 1>2 t1 1/1 c1, append 1>3 t1 1/1 c1`)
	p.deliver(entries, 1, 3, `follower 1.1 1/1 s0 0-0, answer 3>1 t1 1/0 yes`)
	p.do(evRestart(1))
	p.do(evTimeout(1), `candidate 2.1 0/1 s0 0-0, ask 1>2 t2 1/1, ask 1>3 t2 1/1`)
	p.deliver(answer, 3, 1, `candidate 2.1 0/1 s0 0-0`)
	p.do(evDup(p.place(entries, 1, 2)))
	p.deliver(ask, 1, 2)
	p.deliver(vote, 2, 1, `leader 2.1 0/2 s0 0-0, append 1>2 t2 1/1 +2, append 1>3 t2 1/1 +2`)
	p.deliver(entries, 1, 2, `follower 2.1 0/1 s0 0-0, answer 2>1 t2 0/0`)
	// This no is of the leader's own term, and it is one for all that it knows.
	p.deliver(answer, 2, 1, `leader 2.1 0/2 s0 0-0, append 1>2 t2 0/0 +1 +2`)
	p.end()
}

// Promise 11: answers that come twice or late neither take away what a node was known to have nor have it acknowledged twice.
func TestClusterLateAnswers(t *testing.T) {
	p := newPlay(t, 3, room)
	p.elect(1)
	p.do(evBeat(1))
	p.deliver(entries, 1, 2, `follower 1.1 1/1 s0 0-0, answer 2>1 t1 1/0 yes`)
	p.do(evDup(p.place(answer, 2, 1)))
	p.do(evAppend(1, 1, 1, "x"))
	p.deliver(entries, 1, 2, `follower 1.1 1/2 s0 0-0, answer 2>1 t1 2/0 yes`)
	newest := p.lastPlace(answer, 2, 1)
	p.do(evDup(newest))
	p.do(evDeliver(newest), `leader 1.1 2/2 s0 0-1, ack 1: 1.1 at 0 by 2`)
	p.deliver(answer, 2, 1, `leader 1.1 2/2 s0 0-1`)
	p.deliver(answer, 2, 1, `leader 1.1 2/2 s0 0-1`)
	p.deliver(answer, 2, 1, `leader 1.1 2/2 s0 0-1`)
	p.do(evBeat(1), `leader 1.1 2/2 s0 0-1, append 1>2 t1 2/1 c2, append 1>3 t1 1/1 c2 +1:1.1"x"`)
	p.end()
}

// Promise 11: what answers and votes say of a term is nothing to a follower of it.
func TestClusterAnswersToFollower(t *testing.T) {
	p := newPlay(t, 3, room)
	p.elect(1)
	p.do(evBeat(1))
	p.deliver(entries, 1, 2)
	p.do(evRestart(1))
	p.deliver(answer, 2, 1, `follower 1.1 0/1 s0 0-0`)
	p.do(evTimeout(3))
	p.deliver(ask, 3, 2)
	p.do(evRestart(3))
	p.deliver(vote, 2, 3, `follower 2.3 0/1 s0 0-0`)
	p.do(evDump(3), `follower 2.3 0/1 s0 0-0`)
	p.end()
}

// Promise 11: a timeout of each role but a leader's begins a new term, without a bound that a script could reach.
func TestClusterTimeouts(t *testing.T) {
	events := make([]impl.Event, impl.MaxEvents)
	for k := range events {
		events[k] = evTimeout(2)
	}
	r := impl.ClusterRun(2, room, events)
	for k, o := range r.Obs {
		want := impl.View{Role: impl.RoleCandidate, Term: k + 1, Vote: 2}
		if o.Code != impl.OK || o.View != want || len(o.Sent) != 1 || o.Sent[0].Term != k+1 {
			t.Fatalf("timeout %d: %s", k, tellObs(o))
		}
	}
}
