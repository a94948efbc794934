package tests

import (
	"fmt"
	"strings"
	"testing"

	"loop.example/s01723/impl"
)

func evTimeout(n int) impl.Event { return impl.Event{Kind: impl.EvTimeout, Node: n} }

func evBeat(n int) impl.Event { return impl.Event{Kind: impl.EvBeat, Node: n} }

func evAppend(n, client, seq int, data string) impl.Event {
	return impl.Event{Kind: impl.EvAppend, Node: n, A: client, B: seq, Data: []byte(data)}
}

func evRead(n, place int) impl.Event { return impl.Event{Kind: impl.EvRead, Node: n, A: place} }

func evDeliver(place int) impl.Event { return impl.Event{Kind: impl.EvDeliver, A: place} }

func evDrop(place int) impl.Event { return impl.Event{Kind: impl.EvDrop, A: place} }

func evDup(place int) impl.Event { return impl.Event{Kind: impl.EvDup, A: place} }

func evCrash(n int) impl.Event { return impl.Event{Kind: impl.EvCrash, Node: n} }

func evFuse(n, steps int) impl.Event { return impl.Event{Kind: impl.EvFuse, Node: n, A: steps} }

func evRestart(n int, choice ...byte) impl.Event {
	return impl.Event{Kind: impl.EvRestart, Node: n, Data: choice}
}

func evCap(n, room int) impl.Event { return impl.Event{Kind: impl.EvCap, Node: n, A: room} }

func evSnap(n int) impl.Event { return impl.Event{Kind: impl.EvSnap, Node: n} }

func evDump(n int) impl.Event { return impl.Event{Kind: impl.EvDump, Node: n} }

var messageNames = []string{"none", "ask", "vote", "append", "answer", "install"}

var roleNames = []string{"down", "failed", "follower", "candidate", "leader"}

// tellMessage: kind, sender and receiver, term, index and the term there, and what else isn't zero.
func tellMessage(m impl.Message) string {
	out := fmt.Sprintf("%s %d>%d t%d %d/%d", messageNames[m.Kind], m.From, m.To, m.Term, m.Index, m.LogTerm)
	if m.Yes {
		out += " yes"
	}
	if m.Commit != 0 {
		out += fmt.Sprintf(" c%d", m.Commit)
	}
	for _, e := range m.Entries {
		out += fmt.Sprintf(" +%d", e.Term)
		if x, code := impl.DecodeItem(e.Data); code == impl.OK {
			out += fmt.Sprintf(":%d.%d%q", x.Client, x.Seq, x.Data)
		} else if len(e.Data) > 0 {
			out += fmt.Sprintf(":%x", e.Data)
		}
	}
	if len(m.Data) > 0 {
		out += fmt.Sprintf(" %x", m.Data)
	}
	return out
}

// tellView: the role, term and vote, commit and last, the snapshot's index, base and count.
func tellView(v impl.View) string {
	if (v == impl.View{Role: v.Role}) {
		return roleNames[v.Role]
	}
	return fmt.Sprintf("%s %d.%d %d/%d s%d %d-%d", roleNames[v.Role], v.Term, v.Vote, v.Commit, v.Last, v.Snap, v.Base, v.Count)
}

// tellObs: the code unless it is OK, the view, and then what isn't zero.
func tellObs(o impl.Obs) string {
	var out strings.Builder
	if o.Code != impl.OK {
		fmt.Fprintf(&out, "code %d, ", o.Code)
	}
	out.WriteString(tellView(o.View))
	if o.Index != 0 {
		fmt.Fprintf(&out, ", at %d", o.Index)
	}
	if x := o.Item; x.Client != 0 || x.Seq != 0 || len(x.Data) > 0 {
		fmt.Fprintf(&out, ", item %d.%d%q", x.Client, x.Seq, x.Data)
	}
	if s := o.Service; s.Base != 0 || len(s.Kept) > 0 || len(s.Sessions) > 0 {
		out.WriteString(", " + tellService(s))
	}
	for _, a := range o.Acks {
		fmt.Fprintf(&out, ", ack %d: %d.%d at %d by %d", a.Node, a.Client, a.Seq, a.Place, a.Index)
	}
	for _, m := range o.Sent {
		out.WriteString(", " + tellMessage(m))
	}
	return out.String()
}

func tellEvents(events []impl.Event) string {
	var out strings.Builder
	for k, e := range events {
		fmt.Fprintf(&out, "%d: %d node %d, %d %d %x\n", k, e.Kind, e.Node, e.A, e.B, e.Data)
	}
	return out.String()
}

// play is a script that is written while the model plays it; at its end the program plays the same.
type play struct {
	t           *testing.T
	nodes, room int
	model       *modelCluster
	events      []impl.Event
	told        []string // what the model has told
	wants       []string // what was said by hand that should be told, or nothing
}

func newPlay(t *testing.T, nodes, room int) *play {
	t.Helper()
	return &play{t: t, nodes: nodes, room: room, model: newModelCluster(nodes, room)}
}

// do is an event, and by hand what is to be seen of it.
func (p *play) do(e impl.Event, want ...string) impl.Obs {
	p.t.Helper()
	o := p.model.do(e)
	p.events = append(p.events, e)
	p.told = append(p.told, tellObs(o))
	p.wants = append(p.wants, strings.Join(want, ""))
	return o
}

// place is where the first message of that kind from one to the other is in flight.
func (p *play) place(kind, from, to int) int {
	p.t.Helper()
	for k, m := range p.model.flight {
		if m.Kind == kind && m.From == from && m.To == to {
			return k + 1
		}
	}
	p.t.Fatalf("no %s from %d to %d in flight", messageNames[kind], from, to)
	return 0
}

// lastPlace is where the last such message is.
func (p *play) lastPlace(kind, from, to int) int {
	p.t.Helper()
	last := p.place(kind, from, to)
	for k, m := range p.model.flight {
		if m.Kind == kind && m.From == from && m.To == to {
			last = k + 1
		}
	}
	return last
}

func (p *play) deliver(kind, from, to int, want ...string) impl.Obs {
	p.t.Helper()
	return p.do(evDeliver(p.place(kind, from, to)), want...)
}

// deliverAll delivers what is in flight as it comes.
func (p *play) deliverAll() {
	for len(p.model.flight) > 0 {
		p.do(evDeliver(1))
	}
}

func (p *play) dropAll() {
	for len(p.model.flight) > 0 {
		p.do(evDrop(1))
	}
}

// elect makes a node leader, with all messages delivered.
func (p *play) elect(n int) {
	p.t.Helper()
	p.do(evTimeout(n))
	p.deliverAll()
	if v := p.model.nodes[n-1].view(); v.Role != impl.RoleLeader || v.Commit != v.Last {
		p.t.Fatalf("node %d isn't leader of all: %s", n, tellView(v))
	}
}

// end has the program play the script, and gives what is seen.
func (p *play) end() []impl.Obs {
	p.t.Helper()
	r := impl.ClusterRun(p.nodes, p.room, p.events)
	if r.Code != impl.OK || len(r.Obs) != len(p.events) {
		p.t.Fatalf("code %d, %d observations of %d events", r.Code, len(r.Obs), len(p.events))
	}
	for k, o := range r.Obs {
		got := tellObs(o)
		if p.wants[k] != "" && got != p.wants[k] {
			p.t.Errorf("event %d, %v:\n got %s\nwant %s", k, p.events[k], got, p.wants[k])
		}
		if got != p.told[k] {
			p.t.Fatalf("event %d of %d nodes with room %d:\n  got %s\nmodel %s\nscript\n%s", k, p.nodes, p.room, got, p.told[k], tellEvents(p.events[:k+1]))
		}
	}
	return r.Obs
}
