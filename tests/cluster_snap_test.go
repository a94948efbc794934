package tests

import (
	"testing"

	"loop.example/s01723/impl"
)

// Promise 11: a node that lacks what the leader's log has no more gets the snapshot, and then what comes behind it.
func TestClusterInstall(t *testing.T) {
	p := behindSnap(t)
	p.do(evDup(p.place(install, 1, 3)))
	p.do(evDup(p.place(install, 1, 3)))
	p.deliver(install, 1, 3, `follower 1.1 3/3 s3 2-2, answer 3>1 t1 3/0 yes`)
	p.do(evRead(3, 1), `code 14, follower 1.1 3/3 s3 2-2`)
	p.do(evDump(3), `follower 1.1 3/3 s3 2-2, base 2 session 1 2 1 61`)
	p.do(evSnap(3), `code 3, follower 1.1 3/3 s3 2-2`)
	// It comes again: no step is made for it.
	p.do(evFuse(3, 0), `follower 1.1 3/3 s3 2-2`)
	p.deliver(install, 1, 3, `follower 1.1 3/3 s3 2-2, answer 3>1 t1 3/0 yes`)
	p.do(evFuse(3, -1), `follower 1.1 3/3 s3 2-2`)
	p.deliver(answer, 3, 1, `leader 1.1 3/4 s3 2-2, append 1>3 t1 3/1 c3 +1:2.1"b"`)
	p.deliver(entries, 1, 3, `follower 1.1 3/4 s3 2-2, answer 3>1 t1 4/0 yes`)
	p.deliver(answer, 3, 1, `leader 1.1 3/4 s3 2-2, append 1>3 t1 3/1 c3 +1:2.1"b"`)
	p.deliver(answer, 3, 1, `leader 1.1 4/4 s3 2-3, ack 1: 2.1 at 2 by 4`)
	p.do(evSnap(1), `leader 1.1 4/4 s4 3-3`)
	p.do(evBeat(1), `leader 1.1 4/4 s4 3-3, install 1>2 t1 4/1 `+laterHex+`, append 1>3 t1 4/1 c4`)
	p.do(evDeliver(p.lastPlace(entries, 1, 3)), `follower 1.1 4/4 s3 2-3, answer 3>1 t1 4/0 yes`)
	p.do(evRead(3, 2), `follower 1.1 4/4 s3 2-3, item 2.1"b"`)
	// An install below the commit index changes nothing.
	p.deliver(install, 1, 3, `follower 1.1 4/4 s3 2-3, answer 3>1 t1 3/0 yes`)
	p.do(evRestart(3), `follower 1.1 3/4 s3 2-2`)
	p.end()
}

// laterHex is the state of stateHex with an item "b" of client 2 behind.
const laterHex = "03000000000000000200000000000000" +
	"0100000000000000" + "0200000000000000" + "0100000000000000" + "0100000000000000" + "61" +
	"0200000000000000" + "0100000000000000" + "0200000000000000" + "0100000000000000" + "62"

// Promise 12: where the log has the snapshot's last entry already, what is behind it stays.
func TestClusterInstallKeepsEntries(t *testing.T) {
	p := behindSnap(t)
	p.deliver(entries, 1, 2, `follower 1.1 3/4 s0 0-2, answer 2>1 t1 4/0 yes`)
	p.dropAll()
	p.do(evBeat(1), `leader 1.1 3/4 s3 2-2, append 1>2 t1 3/1 c3 +1:2.1"b", install 1>3 t1 3/1 `+stateHex)
	p.do(evRestart(2), `follower 1.1 0/4 s0 0-0`)
	p.do(evRestart(1), `follower 1.1 3/4 s3 2-2`)
	p.do(evTimeout(1))
	p.deliver(ask, 1, 2)
	p.deliver(vote, 2, 1, `leader 2.1 3/5 s3 2-2, append 1>2 t2 4/1 c3 +2, append 1>3 t2 4/1 c3 +2`)
	// The append of the older term is refused as if nothing were known, so that the leader begins at the snapshot.
	p.deliver(entries, 1, 2, `follower 2.1 0/4 s0 0-0, answer 2>1 t2 0/0`)
	p.deliver(answer, 2, 1, `leader 2.1 3/5 s3 2-2, install 1>2 t2 3/1 `+stateHex)
	p.deliver(install, 1, 2, `follower 2.1 3/4 s3 2-2, answer 2>1 t2 3/0 yes`)
	p.do(evDump(2), `follower 2.1 3/4 s3 2-2, base 2 session 1 2 1 61`)
	p.do(evRestart(2), `follower 2.1 3/4 s3 2-2`)
	p.deliver(answer, 2, 1, `leader 2.1 3/5 s3 2-2, append 1>2 t2 3/1 c3 +1:2.1"b" +2`)
	p.deliver(entries, 1, 2, `follower 2.1 3/5 s3 2-2, answer 2>1 t2 5/0 yes`)
	p.deliver(answer, 2, 1, `leader 2.1 5/5 s3 2-3`)
	p.end()
}

// Promise 12: an install into a log that has another term at its place leaves nothing of that log.
func TestClusterInstallResets(t *testing.T) {
	p := newPlay(t, 3, room)
	p.elect(3)
	for k := range 4 {
		p.do(evAppend(3, 9, k+1, "lost"))
	}
	p.dropAll()
	p.do(evTimeout(1))
	p.deliver(ask, 1, 2)
	p.deliver(vote, 2, 1, `leader 2.1 0/2 s0 0-0, append 1>2 t2 1/1 +2, append 1>3 t2 1/1 +2`)
	p.deliver(entries, 1, 2)
	p.deliver(answer, 2, 1, `leader 2.1 2/2 s0 0-0`)
	p.do(evAppend(1, 1, 1, "x"))
	p.deliver(entries, 1, 2)
	p.deliver(answer, 2, 1, `leader 2.1 3/3 s0 0-1, ack 1: 1.1 at 0 by 3`)
	p.do(evSnap(1), `leader 2.1 3/3 s3 1-1`)
	p.dropAll()
	p.do(evBeat(1))
	p.deliver(install, 1, 3, `follower 2.0 3/3 s3 1-1, answer 3>1 t2 3/0 yes`)
	p.do(evDump(3), `follower 2.0 3/3 s3 1-1, base 1 session 1 1 0 78`)
	p.deliver(answer, 3, 1, `leader 2.1 3/3 s3 1-1`)
	p.do(evRestart(3), `follower 2.0 3/3 s3 1-1`)
	p.do(evAppend(1, 1, 2, "y"))
	p.deliver(entries, 1, 3, `follower 2.0 3/4 s3 1-1, answer 3>1 t2 4/0 yes`)
	p.end()
}

// Promise 11: entries that come for places in a snapshot are passed over.
func TestClusterAppendBelowSnapshot(t *testing.T) {
	p := newPlay(t, 2, room)
	p.elect(1)
	p.do(evAppend(1, 1, 1, "a"))
	p.do(evAppend(1, 1, 2, "b"))
	p.do(evAppend(1, 1, 3, "c"), `leader 1.1 1/4 s0 0-0, at 4, append 1>2 t1 1/1 c1 +1:1.1"a" +1:1.2"b" +1:1.3"c"`)
	p.do(evDup(3))
	p.do(evDeliver(3), `follower 1.1 1/4 s0 0-0, answer 2>1 t1 4/0 yes`)
	p.deliver(answer, 2, 1, `leader 1.1 4/4 s0 0-3, ack 1: 1.1 at 0 by 2, ack 1: 1.2 at 1 by 3, ack 1: 1.3 at 2 by 4`)
	p.do(evBeat(1), `leader 1.1 4/4 s0 0-3, append 1>2 t1 4/1 c4`)
	p.do(evDeliver(4), `follower 1.1 4/4 s0 0-3, answer 2>1 t1 4/0 yes`)
	p.do(evSnap(2), `follower 1.1 4/4 s4 3-3`)
	p.do(evFuse(2, 0))
	p.deliver(entries, 1, 2, `follower 1.1 4/4 s4 3-3, answer 2>1 t1 2/0 yes`)
	p.deliver(entries, 1, 2, `follower 1.1 4/4 s4 3-3, answer 2>1 t1 3/0 yes`)
	p.deliver(entries, 1, 2, `follower 1.1 4/4 s4 3-3, answer 2>1 t1 4/0 yes`)
	p.end()

	p = newPlay(t, 2, room)
	p.elect(1)
	p.do(evAppend(1, 1, 1, "a"))
	p.do(evDup(1))
	p.deliverAll()
	p.do(evBeat(1))
	p.deliverAll()
	p.do(evAppend(1, 1, 2, "b"))
	p.do(evDup(1))
	p.deliver(entries, 1, 2)
	p.deliver(answer, 2, 1)
	p.do(evAppend(1, 1, 3, "c"), `leader 1.1 3/4 s0 0-2, at 4, append 1>2 t1 3/1 c3 +1:1.3"c"`)
	p.do(evDrop(2))
	p.do(evBeat(1))
	p.do(evDeliver(2), `follower 1.1 3/4 s0 0-2, answer 2>1 t1 4/0 yes`)
	p.do(evSnap(2), `follower 1.1 3/4 s3 2-2`)
	// Index 2, one entry: at the snapshot's own place.
	p.deliver(entries, 1, 2, `follower 1.1 3/4 s3 2-2, answer 2>1 t1 3/0 yes`)
	p.end()
}

// Promise 11: entries that begin below a snapshot and end behind it: those behind it are taken.
func TestClusterAppendAcrossSnapshot(t *testing.T) {
	p := newPlay(t, 3, room)
	p.elect(1)
	p.do(evAppend(1, 1, 1, "a"))
	p.deliver(entries, 1, 2)
	p.dropAll()
	p.do(evAppend(1, 1, 2, "b"))
	p.do(evAppend(1, 1, 3, "c"), `leader 1.1 1/4 s0 0-0, at 4, append 1>2 t1 1/1 c1 +1:1.1"a" +1:1.2"b" +1:1.3"c", append 1>3 t1 1/1 c1 +1:1.1"a" +1:1.2"b" +1:1.3"c"`)
	long := p.lastPlace(entries, 1, 2)
	p.do(evDup(long))
	p.do(evDeliver(p.place(entries, 1, 3)))
	p.deliver(answer, 3, 1, `leader 1.1 3/4 s0 0-2, ack 1: 1.1 at 0 by 2, ack 1: 1.2 at 1 by 3, append 1>3 t1 3/1 c3 +1:1.3"c"`)
	p.do(evBeat(1), `leader 1.1 3/4 s0 0-2, append 1>2 t1 1/1 c3 +1:1.1"a" +1:1.2"b" +1:1.3"c", append 1>3 t1 3/1 c3 +1:1.3"c"`)
	p.do(evDrop(p.lastPlace(entries, 1, 3)))
	p.do(evSnap(1), `leader 1.1 3/4 s3 2-2`)
	p.do(evBeat(1), `leader 1.1 3/4 s3 2-2, install 1>2 t1 3/1 02000000000000000100000000000000`+`0100000000000000`+`0200000000000000`+`0100000000000000`+`0100000000000000`+`62`+`, append 1>3 t1 3/1 c3 +1:1.3"c"`)
	p.deliver(install, 1, 2, `follower 1.1 3/3 s3 2-2, answer 2>1 t1 3/0 yes`)
	p.do(evFuse(2, 2))
	p.do(evDeliver(p.lastPlace(entries, 1, 2)), `follower 1.1 3/4 s3 2-2, answer 2>1 t1 4/0 yes`)
	p.deliver(entries, 1, 2, `follower 1.1 3/4 s3 2-2, answer 2>1 t1 3/0 yes`)
	p.end()
}

// Promise 11: a leader that has taken a snapshot counts and sends from behind it.
func TestClusterLeaderBehindSnapshot(t *testing.T) {
	p := newPlay(t, 3, room)
	p.elect(1)
	p.do(evAppend(1, 1, 1, "a"))
	p.deliverAll()
	p.do(evSnap(1), `leader 1.1 2/2 s2 1-1`)
	p.do(evAppend(1, 1, 2, "b"), `leader 1.1 2/3 s2 1-1, at 3, append 1>2 t1 2/1 c2 +1:1.2"b", append 1>3 t1 2/1 c2 +1:1.2"b"`)
	p.deliver(entries, 1, 2)
	p.deliver(answer, 2, 1, `leader 1.1 3/3 s2 1-2, ack 1: 1.2 at 1 by 3`)
	p.do(evRead(1, 0), `code 14, leader 1.1 3/3 s2 1-2`)
	p.do(evRead(1, 1), `leader 1.1 3/3 s2 1-2, item 1.2"b"`)
	p.do(evRead(1, 2), `code 13, leader 1.1 3/3 s2 1-2`)
	p.do(evRead(1, -1), `code 5, leader 1.1 3/3 s2 1-2`)
	p.do(evSnap(1), `leader 1.1 3/3 s3 2-2`)
	p.do(evTimeout(2))
	p.deliver(ask, 2, 1, `follower 2.2 3/3 s3 2-2, vote 1>2 t2 0/0 yes`)
	p.do(evTimeout(3))
	p.deliver(ask, 3, 1, `follower 2.2 3/3 s3 2-2, vote 1>3 t2 0/0`)
	p.end()
}

// Promise 11: a restart of a node that runs, that is down, that has failed; what it gives up and what it keeps.
func TestClusterRestart(t *testing.T) {
	p := newPlay(t, 3, room)
	p.elect(1)
	p.do(evAppend(1, 1, 1, "a"))
	p.deliverAll()
	p.do(evSnap(1))
	p.do(evAppend(1, 1, 2, "b"))
	p.deliver(entries, 1, 2)
	p.deliver(answer, 2, 1, `leader 1.1 3/3 s2 1-2, ack 1: 1.2 at 1 by 3`)
	p.do(evRestart(1), `follower 1.1 2/3 s2 1-1`)
	p.do(evDump(1), `follower 1.1 2/3 s2 1-1, base 1 session 1 1 0 61`)
	p.do(evCrash(1), `down`)
	p.do(evRestart(1), `follower 1.1 2/3 s2 1-1`)
	p.do(evCrash(2), `down`)
	p.do(evRestart(2, 255, 255), `follower 1.1 0/3 s0 0-0`)
	p.do(evFuse(1, 0))
	p.do(evTimeout(1), `code 7, failed`)
	p.do(evRestart(1), `follower 1.1 2/3 s2 1-1`)
	p.do(evFuse(1, 0))
	p.do(evTimeout(1), `code 7, failed`)
	p.do(evCrash(1), `down`)
	p.do(evRestart(1, 255, 255, 255), `follower 1.1 2/3 s2 1-1`)
	// The fuse is gone with the crash, and a candidate is one no more.
	p.do(evTimeout(1), `candidate 2.1 2/3 s2 1-1, ask 1>2 t2 3/1, ask 1>3 t2 3/1`)
	p.do(evRestart(1), `follower 2.1 2/3 s2 1-1`)
	p.deliver(ask, 1, 2)
	p.deliver(vote, 2, 1, `follower 2.1 2/3 s2 1-1`)
	p.end()

	// A leader that has lost what it was about, and one that finds it: the second reading has the entry whole.
	for _, c := range []struct {
		choice []byte
		want   string
	}{{nil, `follower 1.1 0/1 s0 0-0`}, {[]byte{255}, `follower 1.1 0/2 s0 0-0`}} {
		p = newPlay(t, 1, room)
		p.do(evTimeout(1), `leader 1.1 1/1 s0 0-0`)
		p.do(evFuse(1, 1))
		p.do(evAppend(1, 1, 1, "abcd"), `code 7, failed`)
		p.do(evRestart(1, append(c.choice, c.choice...)...), c.want)
		p.end()
	}
}

// Promise 11: a recovery that is refused a step leaves the node failed, with that step's code, until one isn't.
func TestClusterRestartRefused(t *testing.T) {
	p := newPlay(t, 1, 35)
	p.do(evTimeout(1), `code 9, failed`)
	p.do(evRestart(1), `code 6, failed`)
	p.do(evRestart(1, 255, 255), `code 6, failed`)
	p.do(evCap(1, 36), `failed`)
	p.do(evFuse(1, 0), `failed`)
	p.do(evRestart(1), `follower`)
	p.do(evTimeout(1), `code 6, failed`)
	p.do(evCap(1, impl.MaxImage), `failed`)
	p.do(evTimeout(1), `code 9, failed`)
	p.do(evRestart(1), `follower`)
	p.do(evTimeout(1), `leader 1.1 1/1 s0 0-0`)
	p.do(evCap(1, -5), `leader 1.1 1/1 s0 0-0`)
	p.do(evAppend(1, 1, 1, ""), `code 6, failed`)
	p.do(evRestart(1), `follower 1.1 0/1 s0 0-0`)
	p.end()
}
