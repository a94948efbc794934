package tests

import (
	"slices"

	"loop.example/s01723/impl"
)

// The model of chapter 7, word by word, on the models of chapters 5 and 6: one event after the other, in one goroutine. It can be asked what
// is in flight and what the nodes know, so that a script can be written while it is played.

type modelNode struct {
	number  int
	storage *modelStable
	role    int
	commit  int
	service impl.Service
	voters  map[int]int
	next    map[int]int
	match   map[int]int
}

type modelCluster struct {
	nodes  []*modelNode
	flight []impl.Message
	obs    impl.Obs // of the event in hand
}

// modelRefusal ends an event where it stands.
type modelRefusal struct{ code int }

func must(code int) {
	if code != 0 {
		panic(modelRefusal{code})
	}
}

func newModelCluster(nodes, room int) *modelCluster {
	c := &modelCluster{}
	for k := range nodes {
		storage, code := newModelStable(nil, room)
		n := &modelNode{number: k + 1, storage: storage, role: 2}
		if code != 0 {
			n.role = 1
		}
		c.nodes = append(c.nodes, n)
	}
	return c
}

func (n *modelNode) term() int { return n.storage.known.Term }

func (n *modelNode) last() int { return n.storage.log().last() }

func (n *modelNode) termAt(index int) int { return n.storage.log().term(index) }

func (n *modelNode) snapIndex() int { return n.storage.known.SnapIndex }

func (n *modelNode) terms() []int { return modelTerms(n.storage.known.Entries) }

func modelTerms(entries []impl.Entry) []int {
	var out []int
	for _, e := range entries {
		out = append(out, e.Term)
	}
	return out
}

func (n *modelNode) view() impl.View {
	if n.role == 0 || n.role == 1 {
		return impl.View{Role: n.role}
	}
	k := n.storage.known
	return impl.View{
		Role: n.role, Term: k.Term, Vote: k.Vote, Commit: n.commit, Last: n.last(), Snap: k.SnapIndex,
		Base: n.service.Base, Count: n.service.Base + len(n.service.Kept),
	}
}

func (c *modelCluster) send(n *modelNode, m impl.Message) {
	m.From, m.Term = n.number, n.term()
	c.obs.Sent = append(c.obs.Sent, m)
}

func (c *modelCluster) sendLog(n *modelNode, to int) {
	if n.next[to] <= n.snapIndex() {
		k := n.storage.known
		c.send(n, impl.Message{Kind: 5, To: to, Index: k.SnapIndex, LogTerm: k.SnapTerm, Data: k.State})
		return
	}
	m := impl.Message{Kind: 3, To: to, Index: n.next[to] - 1, LogTerm: n.termAt(n.next[to] - 1), Commit: n.commit}
	for i := n.next[to]; i <= n.last() && len(m.Entries) < 8; i++ {
		m.Entries = append(m.Entries, n.storage.known.Entries[i-n.snapIndex()-1])
	}
	c.send(n, m)
}

func (c *modelCluster) eachOther(n *modelNode, do func(int)) {
	for _, o := range c.nodes {
		if o != n {
			do(o.number)
		}
	}
}

func (c *modelCluster) sendLogs(n *modelNode) {
	c.eachOther(n, func(to int) { c.sendLog(n, to) })
}

// apply puts the commit index further; the leader acknowledges.
func (c *modelCluster) apply(n *modelNode, commit int, leader bool) {
	for n.commit < commit {
		n.commit++
		e := n.storage.known.Entries[n.commit-n.snapIndex()-1]
		service, place, code := modelApply(n.service, e.Data)
		n.service = service
		if x, bad := impl.DecodeItem(e.Data); leader && bad == 0 && code == 0 && e.Term == n.term() {
			c.obs.Acks = append(c.obs.Acks, impl.Ack{Node: n.number, Client: x.Client, Seq: x.Seq, Place: place, Index: n.commit})
		}
	}
}

func (c *modelCluster) advance(n *modelNode) {
	match := []int{n.last()}
	c.eachOther(n, func(o int) { match = append(match, n.match[o]) })
	c.apply(n, modelCommit(match, n.terms(), n.snapIndex(), n.term(), n.commit), true)
}

func (c *modelCluster) becomeLeader(n *modelNode) {
	n.role, n.next, n.match = 4, map[int]int{}, map[int]int{}
	c.eachOther(n, func(o int) { n.next[o] = n.last() + 1 })
	must(n.storage.append([]impl.Entry{{Term: n.term()}}))
	c.advance(n)
	c.sendLogs(n)
}

func (c *modelCluster) leaderIfElected(n *modelNode) bool {
	if 2*len(n.voters) <= len(c.nodes) {
		return false
	}
	c.becomeLeader(n)
	return true
}

func (c *modelCluster) timeout(n *modelNode) {
	if n.role == 4 {
		must(impl.ErrLeader)
	}
	if n.term() == impl.MaxTerm {
		must(impl.ErrRange)
	}
	must(n.storage.vote(n.term()+1, n.number))
	n.role, n.voters = 3, map[int]int{n.number: 1}
	if !c.leaderIfElected(n) {
		c.eachOther(n, func(to int) {
			c.send(n, impl.Message{Kind: 1, To: to, Index: n.last(), LogTerm: n.termAt(n.last())})
		})
	}
}

func (c *modelCluster) append(n *modelNode, e impl.Event) {
	if n.role != 4 {
		must(impl.ErrLeader)
	}
	if !modelItem(e.A, e.B, e.Data) {
		must(impl.ErrRange)
	}
	must(n.storage.append([]impl.Entry{{Term: n.term(), Data: itemBytes(e.A, e.B, string(e.Data))}}))
	c.obs.Index = n.last()
	c.advance(n)
	c.sendLogs(n)
}

func (c *modelCluster) read(n *modelNode, place int) {
	switch {
	case place < 0:
		must(impl.ErrRange)
	case place >= n.service.Base+len(n.service.Kept):
		must(impl.ErrBeyond)
	case place < n.service.Base:
		must(impl.ErrCompacted)
	}
	c.obs.Item = n.service.Kept[place-n.service.Base]
}

func (c *modelCluster) restart(n *modelNode, choice []byte) {
	n.role = 1
	n.storage.disk.do(crash(choice...))
	must(n.storage.recover())
	n.role, n.commit, n.service = 2, n.snapIndex(), impl.Service{}
	if n.commit > 0 {
		c.takeState(n)
	}
}

func (c *modelCluster) takeState(n *modelNode) {
	service, code := impl.DecodeState(n.storage.known.State)
	if code != 0 {
		n.role = 1
		must(impl.ErrCorrupt)
	}
	n.service = service
}

func (c *modelCluster) snap(n *modelNode) {
	if n.commit == n.snapIndex() {
		must(impl.ErrNone)
	}
	n.service.Base += len(n.service.Kept)
	n.service.Kept = nil
	must(n.storage.snap(n.commit, n.termAt(n.commit), modelState(n.service)))
}

func (c *modelCluster) handle(n *modelNode, m impl.Message) {
	if m.Term > n.term() {
		must(n.storage.vote(m.Term, 0))
		n.role = 2
	}
	switch m.Kind {
	case 1:
		c.handleAsk(n, m)
	case 2:
		if n.role == 3 && m.Term == n.term() && m.Yes {
			n.voters[m.From] = 1
			c.leaderIfElected(n)
		}
	case 3:
		c.handleAppend(n, m)
	case 4:
		if n.role == 4 && m.Term == n.term() {
			c.handleAnswer(n, m)
		}
	case 5:
		c.handleInstall(n, m)
	}
}

func (c *modelCluster) handleAsk(n *modelNode, m impl.Message) {
	vote, last := n.storage.known.Vote, n.termAt(n.last())
	mayLead := m.LogTerm > last || m.LogTerm == last && m.Index >= n.last()
	yes := m.Term == n.term() && (vote == 0 || vote == m.From) && mayLead
	if yes && vote == 0 {
		must(n.storage.vote(n.term(), m.From))
	}
	c.send(n, impl.Message{Kind: 2, To: m.From, Yes: yes})
}

func (c *modelCluster) answer(n *modelNode, m impl.Message, yes bool, index int) {
	c.send(n, impl.Message{Kind: 4, To: m.From, Yes: yes, Index: index})
}

func (c *modelCluster) handleAppend(n *modelNode, m impl.Message) {
	if m.Term < n.term() {
		c.answer(n, m, false, 0)
		return
	}
	n.role = 2
	if m.Index > n.last() || m.Index >= n.snapIndex() && n.termAt(m.Index) != m.LogTerm {
		c.answer(n, m, false, min(n.last(), m.Index-1))
		return
	}
	from, skip := modelMerge(n.snapIndex(), n.terms(), m.Index, modelTerms(m.Entries))
	if from != 0 {
		must(n.storage.cut(from))
	}
	must(n.storage.append(m.Entries[skip:]))
	c.apply(n, min(m.Commit, m.Index+len(m.Entries)), false)
	c.answer(n, m, true, m.Index+len(m.Entries))
}

func (c *modelCluster) handleAnswer(n *modelNode, m impl.Message) {
	if !m.Yes {
		n.next[m.From] = min(n.next[m.From]-1, m.Index+1)
		if n.next[m.From] < n.match[m.From]+1 {
			n.next[m.From] = n.match[m.From] + 1
		}
		c.sendLog(n, m.From)
		return
	}
	if m.Index > n.match[m.From] {
		n.match[m.From] = m.Index
	}
	n.next[m.From] = n.match[m.From] + 1
	c.advance(n)
	if n.next[m.From] <= n.last() {
		c.sendLog(n, m.From)
	}
}

func (c *modelCluster) handleInstall(n *modelNode, m impl.Message) {
	if m.Term < n.term() {
		c.answer(n, m, false, 0)
		return
	}
	n.role = 2
	if m.Index > n.commit {
		must(n.storage.snap(m.Index, m.LogTerm, string(m.Data)))
		c.takeState(n)
		n.commit = m.Index
	}
	c.answer(n, m, true, m.Index)
}

// onNode: what the node does with an event, or with the message delivered to it.
func (c *modelCluster) onNode(n *modelNode, e impl.Event, m impl.Message) {
	if n.role == 0 && e.Kind != 10 {
		must(impl.ErrDown)
	}
	if n.role == 1 && !slices.Contains([]int{8, 9, 10, 11}, e.Kind) {
		must(impl.ErrFailed)
	}
	switch e.Kind {
	case 1:
		c.timeout(n)
	case 2:
		if n.role != 4 {
			must(impl.ErrLeader)
		}
		c.sendLogs(n)
	case 3:
		c.append(n, e)
	case 4:
		c.read(n, e.A)
	case 5:
		c.handle(n, m)
	case 8:
		n.role = 0
	case 9:
		n.storage.disk.do(fuse(e.A))
	case 10:
		c.restart(n, e.Data)
	case 11:
		n.storage.disk.do(capacity(e.A))
	case 12:
		c.snap(n)
	case 13:
		c.obs.Service = n.service
	}
}

func (c *modelCluster) observe(n *modelNode, e impl.Event, m impl.Message) impl.Obs {
	c.obs = impl.Obs{}
	func() {
		defer func() {
			switch why := recover().(type) {
			case nil:
			case modelRefusal:
				c.obs = impl.Obs{Code: why.code}
			default:
				panic(why)
			}
		}()
		c.onNode(n, e, m)
	}()
	if n.role > 1 && n.storage.failed {
		n.role = 1
	}
	for _, m := range c.obs.Sent {
		c.fly(m)
	}
	c.obs.View = n.view()
	return c.obs
}

func (c *modelCluster) fly(m impl.Message) {
	if len(c.flight) < 512 {
		c.flight = append(c.flight, m)
	}
}

func (c *modelCluster) do(e impl.Event) impl.Obs {
	if e.Kind < 1 || e.Kind > 13 {
		return impl.Obs{Code: impl.ErrKind}
	}
	if e.Kind < 5 || e.Kind > 7 {
		if e.Node < 1 || e.Node > len(c.nodes) {
			return impl.Obs{Code: impl.ErrRange}
		}
		return c.observe(c.nodes[e.Node-1], e, impl.Message{})
	}
	if e.A < 1 || e.A > len(c.flight) {
		return impl.Obs{Code: impl.ErrNone}
	}
	m := c.flight[e.A-1]
	if e.Kind == 7 {
		c.fly(m)
		return impl.Obs{}
	}
	c.flight = append(slices.Clone(c.flight[:e.A-1]), c.flight[e.A:]...)
	if e.Kind == 6 {
		return impl.Obs{}
	}
	return c.observe(c.nodes[m.To-1], e, m)
}
