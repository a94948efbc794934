package tests

import (
	"fmt"
	"math/rand/v2"
	"testing"

	"loop.example/s01723/impl"
)

// witness holds what the program shows of a run against the promises 12 to 15. It takes from the model only of which node an observation is.
type witness struct {
	t       *testing.T
	items   map[int]string    // by place: client and seq
	data    map[int]string    // by place: the data, where they were seen
	places  map[string]int    // by client and seq
	leaders map[int]int       // by term
	terms   map[int]int       // by node: the last that was seen
	votes   map[[2]int]int    // by node and term
	views   map[int]impl.View // by node: the last that was seen
	acked   map[int]int       // by place: the event that acknowledged it first
}

func newWitness(t *testing.T) *witness {
	return &witness{
		t: t, items: map[int]string{}, data: map[int]string{}, places: map[string]int{}, leaders: map[int]int{},
		terms: map[int]int{}, votes: map[[2]int]int{}, views: map[int]impl.View{}, acked: map[int]int{},
	}
}

// pair: there is one item at a place, and one place for an item.
func (w *witness) pair(k, place, client, seq int) {
	x := fmt.Sprintf("%d.%d", client, seq)
	if was, seen := w.items[place]; seen && was != x {
		w.t.Fatalf("event %d: %s at %d, where %s was seen", k, x, place, was)
	}
	if was, seen := w.places[x]; seen && was != place {
		w.t.Fatalf("event %d: %s at %d, and at %d before", k, x, place, was)
	}
	w.items[place], w.places[x] = x, place
}

func (w *witness) item(k, place int, x impl.Item) {
	w.pair(k, place, x.Client, x.Seq)
	if was, seen := w.data[place]; seen && was != string(x.Data) {
		w.t.Fatalf("event %d: %x at %d, where %x was seen", k, x.Data, place, was)
	}
	w.data[place] = string(x.Data)
}

func (w *witness) service(k int, s impl.Service) {
	for i, x := range s.Kept {
		w.item(k, s.Base+i, x)
	}
	for _, x := range s.Sessions {
		w.item(k, x.Index, impl.Item{Client: x.Client, Seq: x.Seq, Data: x.Data})
	}
}

// node: terms don't fall, nobody votes twice, nobody leads beside another.
func (w *witness) node(k, n int, v impl.View) {
	w.views[n] = v
	if v.Role < impl.RoleFollower {
		return
	}
	if v.Term < w.terms[n] {
		w.t.Fatalf("event %d: the term of node %d falls from %d to %d", k, n, w.terms[n], v.Term)
	}
	w.terms[n] = v.Term
	if was := w.votes[[2]int{n, v.Term}]; was != 0 && was != v.Vote {
		w.t.Fatalf("event %d: node %d votes for %d and %d in term %d", k, n, was, v.Vote, v.Term)
	}
	w.votes[[2]int{n, v.Term}] = v.Vote
	if v.Role == impl.RoleLeader {
		if was := w.leaders[v.Term]; was != 0 && was != n {
			w.t.Fatalf("event %d: nodes %d and %d lead in term %d", k, was, n, v.Term)
		}
		w.leaders[v.Term] = n
	}
}

// sees takes an observation; n is the node that it is of, or 0.
func (w *witness) sees(k, n int, e impl.Event, o impl.Obs) {
	was, seen := w.views[n]
	if o.Code != impl.OK && (len(o.Sent) > 0 || len(o.Acks) > 0) {
		w.t.Fatalf("event %d: something is sent with a code: %s", k, tellObs(o))
	}
	if seen && was.Role == impl.RoleFailed && e.Kind != impl.EvRestart && (len(o.Sent) > 0 || len(o.Acks) > 0 || o.View.Role > impl.RoleFailed) {
		w.t.Fatalf("event %d: a failed node: %s", k, tellObs(o))
	}
	if n != 0 {
		w.node(k, n, o.View)
	}
	for _, m := range o.Sent {
		if m.From != n || m.Term != o.View.Term {
			w.t.Fatalf("event %d: node %d of term %d sends %s", k, n, o.View.Term, tellMessage(m))
		}
		if m.Kind == impl.MsgVote && m.Yes && o.View.Vote != m.To {
			w.t.Fatalf("event %d: a vote for %d by one that has voted for %d", k, m.To, o.View.Vote)
		}
	}
	for _, a := range o.Acks {
		if a.Node != n || o.View.Role != impl.RoleLeader || a.Index > o.View.Commit || a.Place >= o.View.Count {
			w.t.Fatalf("event %d: %s", k, tellObs(o))
		}
		w.pair(k, a.Place, a.Client, a.Seq)
		w.acked[a.Place] = k
	}
	if e.Kind == impl.EvRead && o.Code == impl.OK {
		w.item(k, e.A, o.Item)
	}
	w.service(k, o.Service)
}

// watched plays a script to its end, with dumps and the promises asked in between.
func watched(t *testing.T, r *rand.Rand, w weather, nodes, events int) *play {
	p := newPlay(t, nodes, []int{2000, room, room}[r.IntN(3)])
	seqs := make([]int, 1+r.IntN(4))
	for k := range events {
		p.do(randomEvent(r, w, p.model, seqs))
		if k%25 == 0 {
			for n := range nodes {
				p.do(evDump(n + 1))
			}
		}
	}
	return p
}

// receivers tells of which node each observation is.
func receivers(p *play) []int {
	again := newModelCluster(p.nodes, p.room)
	out := make([]int, len(p.events))
	for k, e := range p.events {
		switch {
		case e.Kind == impl.EvDeliver && e.A >= 1 && e.A <= len(again.flight):
			out[k] = again.flight[e.A-1].To
		case e.Kind >= 1 && e.Kind <= 13 && (e.Kind < 5 || e.Kind > 7) && e.Node >= 1 && e.Node <= p.nodes:
			out[k] = e.Node
		}
		again.do(e)
	}
	return out
}

// wantPromises: what the program shows of the script keeps the promises 12 to 15.
func wantPromises(t *testing.T, p *play) *witness {
	t.Helper()
	w, of := newWitness(t), receivers(p)
	for k, o := range p.end() {
		w.sees(k, of[k], p.events[k], o)
	}
	return w
}

// calmDown restarts all nodes with enough capacity and has nothing in flight.
func (p *play) calmDown() {
	p.t.Helper()
	for n := 1; n <= p.nodes; n++ {
		p.do(evRestart(n))
		p.do(evCap(n, impl.MaxImage))
		if o := p.do(evRestart(n)); o.Code != impl.OK {
			p.t.Fatalf("node %d doesn't restart: %s", n, tellObs(o))
		}
	}
	p.dropAll()
}

// mostUpToDate is a node whose log may lead all others.
func (p *play) mostUpToDate() int {
	best := p.model.nodes[0]
	for _, n := range p.model.nodes {
		if impl.UpToDate(best.termAt(best.last()), best.last(), n.termAt(n.last()), n.last()) {
			best = n
		}
	}
	return best.number
}

// Promises 12 to 16: behind any script the nodes agree, go on, and an append is acknowledged.
func TestClusterPromises(t *testing.T) {
	for name, w := range weathers {
		t.Run(name, func(t *testing.T) {
			t.Parallel()
			r := rand.New(rand.NewPCG(uint64(len(name)), 16))
			acks := 0
			for range 100 {
				p := watched(t, r, w, someNodes(r), r.IntN(1200))
				p.calmDown()
				n := p.mostUpToDate()
				for range 2 {
					if p.model.nodes[n-1].role != impl.RoleLeader {
						p.do(evTimeout(n))
						p.deliverAll()
					}
				}
				p.do(evAppend(n, 49, 1, "at last"))
				p.deliverAll()
				p.do(evBeat(n))
				p.deliverAll()
				for k := range p.nodes {
					p.do(evDump(k + 1))
				}
				seen := wantPromises(t, p)
				place, there := seen.places["49.1"]
				if !there || seen.acked[place] == 0 {
					t.Fatalf("not acknowledged:\n%s", tellEvents(p.events))
				}
				for k := range p.nodes {
					if v := seen.views[k+1]; v.Count != place+1 {
						t.Fatalf("node %d doesn't follow: %s", k+1, tellView(v))
					}
				}
				acks += len(seen.acked)
			}
			if acks < 400 {
				t.Errorf("only %d items were acknowledged", acks)
			}
		})
	}
}

// Promises 12 and 13: what a node has sent or acknowledged by, it has laid down ahead: a restart that loses all that wasn't synced, or keeps all,
// finds the same term, vote, log and snapshot.
func TestClusterPersistsAhead(t *testing.T) {
	r := rand.New(rand.NewPCG(12, 13))
	for range 40 {
		p := randomPlay(t, r, weathers["stormy"], someNodes(r), room, 150)
		of, obs := receivers(p), p.end()
		for k, o := range obs {
			if o.View.Role < impl.RoleFollower {
				continue
			}
			for _, choice := range [][]byte{nil, {255, 255, 255, 255, 255, 255, 255, 255}} {
				r := impl.ClusterRun(p.nodes, p.room, append(p.events[:k+1:k+1], evCap(of[k], room), evRestart(of[k], choice...)))
				v := r.Obs[k+2].View
				want := impl.View{Role: 2, Term: o.View.Term, Vote: o.View.Vote, Commit: o.View.Snap, Last: o.View.Last, Snap: o.View.Snap, Base: v.Base, Count: v.Base}
				if v != want {
					t.Fatalf("event %d, %s: a restart shows %s\n%s", k, tellObs(o), tellView(v), tellEvents(p.events[:k+1]))
				}
			}
		}
	}
}

// Promise 12: what was acknowledged is found by all behind crashes of every node, with all that isn't synced lost.
func TestClusterAcknowledgedStays(t *testing.T) {
	for nodes := 1; nodes <= 7; nodes++ {
		p := newPlay(t, nodes, room)
		seq := 0
		for round := range 12 {
			n := 1 + round%nodes
			for range 2 {
				if p.model.nodes[n-1].role != impl.RoleLeader {
					p.do(evTimeout(n))
					p.deliverAll()
				}
			}
			for range 5 {
				seq++
				p.do(evAppend(n, 1+seq%3, seq, fmt.Sprint(seq)))
				p.deliverAll()
			}
			p.do(evSnap(1 + (round+1)%nodes))
			for k := range nodes {
				p.do(evDump(k + 1))
				p.do(evRestart(k + 1))
			}
		}
		w := wantPromises(t, p)
		if len(w.acked) != seq {
			t.Errorf("%d nodes: %d items acknowledged of %d", nodes, len(w.acked), seq)
		}
		for place := range seq {
			if w.items[place] != fmt.Sprintf("%d.%d", 1+(place+1)%3, place+1) {
				t.Errorf("%d nodes: %s at %d", nodes, w.items[place], place)
			}
		}
	}
}

// Promise 15: the same pair comes again, to each leader in turn, and has one place; with other data it has none.
func TestClusterOnePlace(t *testing.T) {
	p := newPlay(t, 3, room)
	for round := range 9 {
		n := 1 + round%3
		for range 2 {
			if p.model.nodes[n-1].role != impl.RoleLeader {
				p.do(evTimeout(n))
				p.deliverAll()
			}
		}
		p.do(evAppend(n, 7, 3, "same"))
		p.deliverAll()
		p.do(evAppend(n, 7, 3, "other"))
		p.deliverAll()
		p.do(evAppend(n, 7, 2, "older"))
		p.deliverAll()
		p.do(evAppend(n, 8, 1+round, "next"))
		p.deliverAll()
		if round%2 == 1 {
			p.do(evSnap(n))
		}
	}
	again := 0
	for _, o := range p.end() {
		for _, a := range o.Acks {
			if a.Client == 7 && (a.Seq != 3 || a.Place != 0) {
				t.Errorf("%+v", a)
			}
			if a.Client == 7 {
				again++
			}
		}
	}
	if again != 9 {
		t.Errorf("acknowledged %d times", again)
	}
	w := wantPromises(t, p)
	if len(w.items) != 10 {
		t.Errorf("%d items have places", len(w.items))
	}
}
