package tests

import (
	"fmt"
	"testing"

	"loop.example/s01723/impl"
)

const (
	ask     = impl.MsgAsk
	vote    = impl.MsgVote
	entries = impl.MsgAppend
	answer  = impl.MsgAnswer
	install = impl.MsgInstall
)

// Promise 11: an election, an append, its commit in three nodes.
func TestClusterOrdinary(t *testing.T) {
	p := newPlay(t, 3, room)
	p.do(evTimeout(1), `candidate 1.1 0/0 s0 0-0, ask 1>2 t1 0/0, ask 1>3 t1 0/0`)
	p.deliver(ask, 1, 2, `follower 1.1 0/0 s0 0-0, vote 2>1 t1 0/0 yes`)
	p.deliver(vote, 2, 1, `leader 1.1 0/1 s0 0-0, append 1>2 t1 0/0 +1, append 1>3 t1 0/0 +1`)
	p.deliver(ask, 1, 3, `follower 1.1 0/0 s0 0-0, vote 3>1 t1 0/0 yes`)
	p.deliver(vote, 3, 1, `leader 1.1 0/1 s0 0-0`)
	p.deliver(entries, 1, 2, `follower 1.1 0/1 s0 0-0, answer 2>1 t1 1/0 yes`)
	p.deliver(answer, 2, 1, `leader 1.1 1/1 s0 0-0`)
	p.do(evAppend(1, 7, 1, "x"), `leader 1.1 1/2 s0 0-0, at 2, append 1>2 t1 1/1 c1 +1:7.1"x", append 1>3 t1 0/0 c1 +1 +1:7.1"x"`)
	p.deliver(entries, 1, 3, `follower 1.1 0/1 s0 0-0, answer 3>1 t1 1/0 yes`)
	p.deliver(answer, 3, 1, `leader 1.1 1/2 s0 0-0, append 1>3 t1 1/1 c1 +1:7.1"x"`)
	p.deliver(entries, 1, 3, `follower 1.1 1/2 s0 0-0, answer 3>1 t1 2/0 yes`)
	p.deliver(answer, 3, 1, `leader 1.1 2/2 s0 0-1, ack 1: 7.1 at 0 by 2`)
	p.deliver(entries, 1, 2, `follower 1.1 1/2 s0 0-0, answer 2>1 t1 2/0 yes`)
	p.deliver(answer, 2, 1, `leader 1.1 2/2 s0 0-1`)
	p.do(evRead(1, 0), `leader 1.1 2/2 s0 0-1, item 7.1"x"`)
	p.do(evRead(2, 0), `code 13, follower 1.1 1/2 s0 0-0`)
	p.do(evBeat(1), `leader 1.1 2/2 s0 0-1, append 1>2 t1 2/1 c2, append 1>3 t1 2/1 c2`)
	p.deliver(entries, 1, 2, `follower 1.1 2/2 s0 0-1, answer 2>1 t1 2/0 yes`)
	p.do(evRead(2, 0), `follower 1.1 2/2 s0 0-1, item 7.1"x"`)
	p.do(evDump(2), `follower 1.1 2/2 s0 0-1, base 0 kept 7 1 78 session 7 1 0 78`)
	p.do(evDump(3), `follower 1.1 1/2 s0 0-0`)
	p.end()
}

// Promise 11: a node alone leads at once, and acknowledges at once.
func TestClusterAlone(t *testing.T) {
	p := newPlay(t, 1, room)
	p.do(evTimeout(1), `leader 1.1 1/1 s0 0-0`)
	p.do(evBeat(1), `leader 1.1 1/1 s0 0-0`)
	p.do(evAppend(1, 1, 5, "a"), `leader 1.1 2/2 s0 0-1, at 2, ack 1: 1.5 at 0 by 2`)
	p.do(evAppend(1, 2, 5, "b"), `leader 1.1 3/3 s0 0-2, at 3, ack 1: 2.5 at 1 by 3`)
	p.do(evAppend(1, 1, 5, "a"), `leader 1.1 4/4 s0 0-2, at 4, ack 1: 1.5 at 0 by 4`)
	p.do(evAppend(1, 1, 5, "c"), `leader 1.1 5/5 s0 0-2, at 5`)
	p.do(evAppend(1, 1, 4, "a"), `leader 1.1 6/6 s0 0-2, at 6`)
	p.do(evAppend(1, 1, 6, ""), `leader 1.1 7/7 s0 0-3, at 7, ack 1: 1.6 at 2 by 7`)
	p.do(evDump(1), `leader 1.1 7/7 s0 0-3, base 0 kept 1 5 61 kept 2 5 62 kept 1 6  session 1 6 2  session 2 5 1 62`)
	p.do(evSnap(1), `leader 1.1 7/7 s7 3-3`)
	p.do(evSnap(1), `code 3, leader 1.1 7/7 s7 3-3`)
	p.do(evAppend(1, 2, 5, "b"), `leader 1.1 8/8 s7 3-3, at 8, ack 1: 2.5 at 1 by 8`)
	p.do(evRestart(1), `follower 1.1 7/8 s7 3-3`)
	p.do(evTimeout(1), `leader 2.1 9/9 s7 3-3`)
	p.do(evDump(1), `leader 2.1 9/9 s7 3-3, base 3 session 1 6 2  session 2 5 1 62`)
	p.end()
}

// Promise 11: more than half of the nodes elect, whatever their number; a vote that comes twice is one vote.
func TestClusterMajority(t *testing.T) {
	for nodes := 2; nodes <= 7; nodes++ {
		p := newPlay(t, nodes, room)
		p.do(evTimeout(nodes))
		for n := 1; n <= nodes/2; n++ {
			if role := p.model.nodes[nodes-1].role; role != impl.RoleCandidate {
				t.Fatalf("%d nodes, %d votes: role %d", nodes, n, role)
			}
			p.deliver(ask, nodes, n)
			place := p.place(vote, n, nodes)
			p.do(evDup(place))
			p.do(evDup(place))
			o := p.do(evDeliver(place))
			if n < nodes/2 {
				p.do(evDeliver(len(p.model.flight)), `candidate 1.`, fmt.Sprint(nodes), ` 0/0 s0 0-0`)
				p.do(evDrop(len(p.model.flight)))
			} else if o.View.Role != impl.RoleLeader || len(o.Sent) != nodes-1 {
				t.Fatalf("%d nodes, %d votes: %s", nodes, n+1, tellObs(o))
			}
		}
		p.deliverAll()
		p.do(evAppend(nodes, 1, 1, "x"))
		p.deliverAll()
		p.end()
	}
}

// Promise 13: who has voted votes for no other; who has the longer log votes for no shorter one.
func TestClusterVotes(t *testing.T) {
	p := newPlay(t, 4, room)
	p.do(evTimeout(1))
	p.do(evTimeout(2))
	p.deliver(ask, 1, 3, `follower 1.1 0/0 s0 0-0, vote 3>1 t1 0/0 yes`)
	p.deliver(ask, 2, 3, `follower 1.1 0/0 s0 0-0, vote 3>2 t1 0/0`)
	p.deliver(ask, 1, 2, `candidate 1.2 0/0 s0 0-0, vote 2>1 t1 0/0`)
	p.deliver(vote, 2, 1, `candidate 1.1 0/0 s0 0-0`)
	p.deliver(vote, 3, 2, `candidate 1.2 0/0 s0 0-0`)
	p.do(evDup(p.place(ask, 1, 4)))
	p.do(evDup(p.place(ask, 1, 4)))
	p.deliver(ask, 1, 4, `follower 1.1 0/0 s0 0-0, vote 4>1 t1 0/0 yes`)
	p.do(evFuse(4, 0), `follower 1.1 0/0 s0 0-0`)
	p.deliver(ask, 1, 4, `follower 1.1 0/0 s0 0-0, vote 4>1 t1 0/0 yes`)
	p.deliver(vote, 3, 1, `candidate 1.1 0/0 s0 0-0`)
	p.deliver(vote, 4, 1, `leader 1.1 0/1 s0 0-0, append 1>2 t1 0/0 +1, append 1>3 t1 0/0 +1, append 1>4 t1 0/0 +1`)
	p.deliver(vote, 4, 1, `leader 1.1 0/1 s0 0-0`)
	p.deliver(entries, 1, 3, `follower 1.1 0/1 s0 0-0, answer 3>1 t1 1/0 yes`)
	p.deliver(entries, 1, 2, `follower 1.2 0/1 s0 0-0, answer 2>1 t1 1/0 yes`)
	p.do(evRestart(4), `follower 1.1 0/0 s0 0-0`)
	p.deliver(ask, 1, 4, `follower 1.1 0/0 s0 0-0, vote 4>1 t1 0/0 yes`)
	p.deliver(ask, 2, 4, `follower 1.1 0/0 s0 0-0, vote 4>2 t1 0/0`)
	p.do(evTimeout(4), `candidate 2.4 0/0 s0 0-0, ask 4>1 t2 0/0, ask 4>2 t2 0/0, ask 4>3 t2 0/0`)
	p.deliver(ask, 4, 3, `follower 2.0 0/1 s0 0-0, vote 3>4 t2 0/0`)
	p.do(evTimeout(2), `candidate 2.2 0/1 s0 0-0, ask 2>1 t2 1/1, ask 2>3 t2 1/1, ask 2>4 t2 1/1`)
	p.do(evDrop(p.place(ask, 2, 1)))
	p.deliver(ask, 2, 3, `follower 2.2 0/1 s0 0-0, vote 3>2 t2 0/0 yes`)
	p.do(evTimeout(4), `candidate 3.4 0/0 s0 0-0, ask 4>1 t3 0/0, ask 4>2 t3 0/0, ask 4>3 t3 0/0`)
	p.do(evTimeout(4), `candidate 4.4 0/0 s0 0-0, ask 4>1 t4 0/0, ask 4>2 t4 0/0, ask 4>3 t4 0/0`)
	p.end()
}

// Promise 12: a leader that nobody hears of has appended what is cut from its log.
func TestClusterCut(t *testing.T) {
	p := newPlay(t, 3, room)
	p.elect(1)
	p.do(evAppend(1, 1, 1, "lost"))
	p.do(evAppend(1, 1, 2, "lost too"))
	p.do(evAppend(1, 1, 3, "lost as well"))
	p.dropAll()
	p.do(evTimeout(2), `candidate 2.2 0/1 s0 0-0, ask 2>1 t2 1/1, ask 2>3 t2 1/1`)
	p.deliver(ask, 2, 3, `follower 2.2 0/1 s0 0-0, vote 3>2 t2 0/0 yes`)
	p.deliver(vote, 3, 2, `leader 2.2 0/2 s0 0-0, append 2>1 t2 1/1 +2, append 2>3 t2 1/1 +2`)
	p.deliver(entries, 2, 3, `follower 2.2 0/2 s0 0-0, answer 3>2 t2 2/0 yes`)
	p.deliver(answer, 3, 2, `leader 2.2 2/2 s0 0-0`)
	p.do(evAppend(2, 1, 1, "kept"), `leader 2.2 2/3 s0 0-0, at 3, append 2>1 t2 1/1 c2 +2 +2:1.1"kept", append 2>3 t2 2/2 c2 +2:1.1"kept"`)
	p.deliver(ask, 2, 1, `follower 2.0 1/4 s0 0-0, vote 1>2 t2 0/0`)
	p.do(evDup(p.place(entries, 2, 1)))
	p.deliver(entries, 2, 1, `follower 2.0 1/2 s0 0-0, answer 1>2 t2 2/0 yes`)
	p.deliver(entries, 2, 1, `follower 2.0 2/3 s0 0-0, answer 1>2 t2 3/0 yes`)
	p.deliver(entries, 2, 1, `follower 2.0 2/3 s0 0-0, answer 1>2 t2 2/0 yes`)
	p.deliver(vote, 1, 2, `leader 2.2 2/3 s0 0-0`)
	p.deliver(answer, 1, 2, `leader 2.2 2/3 s0 0-0, append 2>1 t2 2/2 c2 +2:1.1"kept"`)
	p.deliver(answer, 1, 2, `leader 2.2 3/3 s0 0-1, ack 2: 1.1 at 0 by 3`)
	p.deliver(answer, 1, 2, `leader 2.2 3/3 s0 0-1`)
	p.do(evBeat(2), `leader 2.2 3/3 s0 0-1, append 2>1 t2 3/2 c3, append 2>3 t2 2/2 c3 +2:1.1"kept"`)
	p.deliver(entries, 2, 1, `follower 2.0 2/3 s0 0-0, answer 1>2 t2 3/0 yes`)
	p.deliver(entries, 2, 1, `follower 2.0 3/3 s0 0-1, answer 1>2 t2 3/0 yes`)
	p.do(evDump(1), `follower 2.0 3/3 s0 0-1, base 0 kept 1 1 6b657074 session 1 1 0 6b657074`)
	p.do(evRestart(1), `follower 2.0 0/3 s0 0-0`)
	p.end()
}

// longLead makes node 1 leader of three, of which the third has heard of nothing behind index 1; last is 12.
func longLead(t *testing.T) *play {
	p := newPlay(t, 3, room)
	p.elect(1)
	for k := range 11 {
		p.do(evAppend(1, 1, k+1, ""))
		p.do(evDrop(p.place(entries, 1, 3)))
		p.deliverAll()
	}
	return p
}

// Promise 11: a node that lacks entries is led back to where the logs agree, and then forth by batches.
func TestClusterBackAndForth(t *testing.T) {
	p := longLead(t)
	p.do(evTimeout(2), `candidate 2.2 11/12 s0 0-10, ask 2>1 t2 12/1, ask 2>3 t2 12/1`)
	p.deliver(ask, 2, 1, `follower 2.2 12/12 s0 0-11, vote 1>2 t2 0/0 yes`)
	p.deliver(vote, 1, 2, `leader 2.2 11/13 s0 0-10, append 2>1 t2 12/1 c11 +2, append 2>3 t2 12/1 c11 +2`)
	p.dropAll()
	p.do(evBeat(2))
	p.do(evDup(p.place(entries, 2, 3)))
	p.deliver(entries, 2, 3, `follower 2.0 0/1 s0 0-0, answer 3>2 t2 1/0`)
	p.deliver(answer, 3, 2, `leader 2.2 11/13 s0 0-10, append 2>3 t2 1/1 c11 +1:1.1"" +1:1.2"" +1:1.3"" +1:1.4"" +1:1.5"" +1:1.6"" +1:1.7"" +1:1.8""`)
	p.deliver(entries, 2, 3, `follower 2.0 0/1 s0 0-0, answer 3>2 t2 1/0`)
	p.deliver(entries, 2, 3, `follower 2.0 9/9 s0 0-8, answer 3>2 t2 9/0 yes`)
	late := p.place(answer, 3, 2)
	p.do(evDeliver(late+1), `leader 2.2 11/13 s0 0-10, append 2>3 t2 9/1 c11 +1:1.9"" +1:1.10"" +1:1.11"" +2`)
	// The refusal comes behind: what is known to agree stays so.
	p.do(evDeliver(late), `leader 2.2 11/13 s0 0-10, append 2>3 t2 9/1 c11 +1:1.9"" +1:1.10"" +1:1.11"" +2`)
	p.deliver(entries, 2, 3, `follower 2.0 11/13 s0 0-10, answer 3>2 t2 13/0 yes`)
	p.deliver(answer, 3, 2, `leader 2.2 13/13 s0 0-11`)
	p.deliver(entries, 2, 3, `follower 2.0 11/13 s0 0-10, answer 3>2 t2 13/0 yes`)
	p.end()
}

// Promise 11: a log of other terms is gone back by one place at a time.
func TestClusterBackOneByOne(t *testing.T) {
	p := newPlay(t, 3, room)
	p.elect(1)
	p.do(evAppend(1, 1, 1, "a"))
	p.do(evAppend(1, 1, 2, "b"))
	p.dropAll()
	p.do(evTimeout(2))
	p.deliver(ask, 2, 3)
	p.deliver(vote, 3, 2, `leader 2.2 0/2 s0 0-0, append 2>1 t2 1/1 +2, append 2>3 t2 1/1 +2`)
	p.do(evAppend(2, 2, 1, "c"))
	p.do(evAppend(2, 2, 2, "d"))
	for range 3 {
		p.do(evDrop(p.place(entries, 2, 1)))
		p.deliver(entries, 2, 3)
	}
	p.dropAll()
	p.do(evTimeout(3), `candidate 3.3 0/4 s0 0-0, ask 3>1 t3 4/2, ask 3>2 t3 4/2`)
	p.deliver(ask, 3, 1, `follower 3.3 1/3 s0 0-0, vote 1>3 t3 0/0 yes`)
	p.deliver(vote, 1, 3, `leader 3.3 0/5 s0 0-0, append 3>1 t3 4/2 +3, append 3>2 t3 4/2 +3`)
	p.deliver(entries, 3, 1, `follower 3.3 1/3 s0 0-0, answer 1>3 t3 3/0`)
	p.deliver(answer, 1, 3, `leader 3.3 0/5 s0 0-0, append 3>1 t3 3/2 +2:2.2"d" +3`)
	p.deliver(entries, 3, 1, `follower 3.3 1/3 s0 0-0, answer 1>3 t3 2/0`)
	p.deliver(answer, 1, 3, `leader 3.3 0/5 s0 0-0, append 3>1 t3 2/2 +2:2.1"c" +2:2.2"d" +3`)
	p.deliver(entries, 3, 1, `follower 3.3 1/3 s0 0-0, answer 1>3 t3 1/0`)
	p.deliver(answer, 1, 3, `leader 3.3 0/5 s0 0-0, append 3>1 t3 1/1 +2 +2:2.1"c" +2:2.2"d" +3`)
	p.deliver(entries, 3, 1, `follower 3.3 1/5 s0 0-0, answer 1>3 t3 5/0 yes`)
	// Items of an older term have their places, but are not this leader's to acknowledge.
	p.deliver(answer, 1, 3, `leader 3.3 5/5 s0 0-2`)
	p.do(evDump(3), `leader 3.3 5/5 s0 0-2, base 0 kept 2 1 63 kept 2 2 64 session 2 2 1 64`)
	p.end()
}

// Promise 12: entries of an older term that most nodes have are not committed by counting them.
func TestClusterOlderTerm(t *testing.T) {
	p := newPlay(t, 3, room)
	p.elect(1)
	for k := range 9 {
		p.do(evAppend(1, 3, k+1, ""))
	}
	p.dropAll()
	p.do(evTimeout(1), `code 12, leader 1.1 1/10 s0 0-0`)
	p.do(evRestart(1), `follower 1.1 0/10 s0 0-0`)
	p.do(evTimeout(1), `candidate 2.1 0/10 s0 0-0, ask 1>2 t2 10/1, ask 1>3 t2 10/1`)
	p.deliver(ask, 1, 2)
	p.deliver(vote, 2, 1, `leader 2.1 0/11 s0 0-0, append 1>2 t2 10/1 +2, append 1>3 t2 10/1 +2`)
	p.deliver(entries, 1, 2, `follower 2.1 0/1 s0 0-0, answer 2>1 t2 1/0`)
	p.deliver(answer, 2, 1)
	p.deliver(entries, 1, 2, `follower 2.1 0/9 s0 0-0, answer 2>1 t2 9/0 yes`)
	p.deliver(answer, 2, 1, `leader 2.1 0/11 s0 0-0, append 1>2 t2 9/1 +1:3.9"" +2`)
	p.deliver(entries, 1, 2, `follower 2.1 0/11 s0 0-0, answer 2>1 t2 11/0 yes`)
	p.deliver(answer, 2, 1, `leader 2.1 11/11 s0 0-9`)
	p.end()
}

// Promise 11: several items are committed at once, and acknowledged in the order of the log.
func TestClusterManyAcks(t *testing.T) {
	p := newPlay(t, 3, room)
	p.elect(2)
	p.do(evAppend(2, 9, 4, "a"))
	p.do(evAppend(2, 8, 4, "b"))
	p.do(evAppend(2, 9, 4, "a"))
	p.do(evAppend(2, 9, 3, "a"))
	p.do(evAppend(2, 9, 5, "a"))
	for range 4 {
		p.do(evDrop(p.place(entries, 2, 3)))
	}
	p.deliver(entries, 2, 3, `follower 1.2 1/6 s0 0-0, answer 3>2 t1 6/0 yes`)
	p.deliver(answer, 3, 2, `leader 1.2 6/6 s0 0-3, ack 2: 9.4 at 0 by 2, ack 2: 8.4 at 1 by 3, ack 2: 9.4 at 0 by 4, ack 2: 9.5 at 2 by 6`)
	p.end()
}
