package tests

import (
	"encoding/binary"
	"fmt"
	"regexp"
	"slices"
	"strconv"
	"strings"

	"loop.example/s01723/impl"
)

// The models of chapters 4 and 5 keep to the document's words and remember as little as can be: the segments and the
// numbers of their heads are looked for in the files each time.

var modelWalName = regexp.MustCompile(`^wal[0-9]{8}$`)
var modelSnapName = regexp.MustCompile(`^snap[0-9]{8}$`)

func modelSegment(name string) int {
	if !modelWalName.MatchString(name) {
		return 0
	}
	n, _ := strconv.Atoi(name[3:])
	return n
}

// modelRight: the numbers of a payload and what is behind them, if it is right.
func modelRight(r impl.Record) ([]int, []byte, bool) {
	const index, place, term, vote, number = "index", "place", "term", "vote", "number"
	want := map[int][]string{1: {number, place, term}, 2: {place, term}, 3: {place, term}, 4: {term, vote}, 5: {place, term}, 6: {index}, 7: {index, term}}[r.Type]
	more := map[int]int{2: 128, 5: 8000}[r.Type]
	if want == nil || len(r.Data) < 8*len(want) || len(r.Data) > 8*len(want)+more {
		return nil, nil, false
	}
	var out []int
	for k, what := range want {
		n := binary.LittleEndian.Uint64(r.Data[8*k:])
		least := map[string]uint64{place: 1, number: 1}[what]
		most := map[string]uint64{index: 1000000, place: 1000000, term: 1000000000, vote: 7, number: 99999999}[what]
		if n < least || n > most {
			return nil, nil, false
		}
		out = append(out, int(n))
	}
	return out, r.Data[8*len(want):], true
}

type modelLog struct {
	base, baseTerm int
	entries        []impl.Entry
}

func (l modelLog) last() int { return l.base + len(l.entries) }

func (l modelLog) term(index int) int {
	if index == l.base {
		return l.baseTerm
	}
	return l.entries[index-l.base-1].Term
}

// record carries one record out; false: against the rules.
func (l *modelLog) record(r impl.Record, number int, firstSegment, firstRecord bool) bool {
	n, data, right := modelRight(r)
	if !right || (r.Type == 1) != firstRecord {
		return false
	}
	switch r.Type {
	case 1:
		if n[0] != number {
			return false
		}
		if firstSegment {
			*l = modelLog{base: n[1] - 1, baseTerm: n[2]}
			return true
		}
		return n[1] == l.last()+1 && n[2] == l.term(l.last())
	case 2:
		if n[0] != l.last()+1 || n[1] < l.term(l.last()) {
			return false
		}
		l.entries = append(l.entries, impl.Entry{Term: n[1], Data: data})
		return true
	case 3:
		if n[0]-1 >= l.base {
			if n[0]-1 > l.last() || l.term(n[0]-1) != n[1] {
				return false
			}
			l.entries = l.entries[:n[0]-1-l.base]
			return true
		}
		*l = modelLog{base: n[0] - 1, baseTerm: n[1]}
		return true
	case 7:
		*l = modelLog{base: n[0], baseTerm: n[1]}
		return true
	}
	return false
}

// modelWalRead is WalRead for a valid image.
func modelWalRead(files []impl.File) impl.WalView {
	bad := impl.WalView{Code: impl.ErrCorrupt}
	var numbers []int
	bytes := map[int][]byte{}
	for _, f := range files {
		if n := modelSegment(f.Name); n > 0 {
			numbers = append(numbers, n)
			bytes[n] = f.Data
		}
	}
	slices.Sort(numbers)
	for k, n := range numbers {
		if n != numbers[0]+k {
			return bad
		}
	}
	var v impl.WalView
	if len(numbers) > 0 {
		last := numbers[len(numbers)-1]
		records, _, _ := impl.FrameScan(bytes[last])
		if len(records) == 0 || !(&modelLog{}).record(records[0], last, true, true) {
			v.Drop = true
			numbers = numbers[:len(numbers)-1]
		}
	}
	var l modelLog
	for k, n := range numbers {
		records, valid, reason := impl.FrameScan(bytes[n])
		if reason != impl.ScanEnd && k < len(numbers)-1 || len(records) == 0 {
			return bad
		}
		for i, r := range records {
			if !l.record(r, n, k == 0, i == 0) {
				return bad
			}
		}
		v.Keep = valid
	}
	v.Base, v.BaseTerm, v.Entries, v.Segments = l.base, l.baseTerm, l.entries, numbers
	return v
}

// modelStable is a node on the model of its disk.
type modelStable struct {
	disk   *modelDisk
	known  impl.Stable
	failed bool
}

func newModelStable(files []impl.File, capacity int) (*modelStable, int) {
	m := &modelStable{disk: newModelDisk(files, capacity)}
	code := m.recover()
	return m, code
}

func (m *modelStable) files() []impl.File { return modelFiles(m.disk.liveDir, m.disk.live) }

func (m *modelStable) file(name string) ([]byte, bool) {
	b, there := m.disk.liveDir[name]
	return m.disk.live[b], there
}

func (m *modelStable) segments() []int {
	var out []int
	for name := range m.disk.liveDir {
		if n := modelSegment(name); n > 0 {
			out = append(out, n)
		}
	}
	slices.Sort(out)
	return out
}

// first is the First that a segment's head has.
func (m *modelStable) first(number int) int {
	b, _ := m.file(wal(number))
	return int(binary.LittleEndian.Uint64(b[12+8:]))
}

func (m *modelStable) steps(ops ...impl.DiskOp) int {
	for _, op := range ops {
		if a := m.disk.do(op); a.Code != 0 {
			return a.Code
		}
	}
	return 0
}

// then goes on while nothing has been refused.
func then(all ...func() int) int {
	for _, f := range all {
		if code := f(); code != 0 {
			return code
		}
	}
	return 0
}

func (m *modelStable) appendBytes(l modelLog, data string) int {
	all := m.segments()
	n := all[len(all)-1]
	now, _ := m.file(wal(n))
	if len(now) >= 256 {
		n++
		if n > 99999999 {
			return impl.ErrFull
		}
		name := wal(n)
		code := m.steps(create(name), write(name, 0, head(n, l.last()+1, l.term(l.last()))), sync(name), syncDir())
		if code != 0 {
			return code
		}
		now, _ = m.file(name)
	}
	return m.steps(write(wal(n), len(now), data), sync(wal(n)))
}

func (m *modelStable) replace(name, data string) int {
	tmp := name + ".tmp"
	return m.steps(create(tmp), write(tmp, 0, data), sync(tmp), rename(tmp, name), syncDir())
}

func (m *modelStable) oldSegments(index int) int {
	for {
		all := m.segments()
		if len(all) < 2 || m.first(all[1]) > index+1 {
			return 0
		}
		if code := m.steps(remove(wal(all[0])), syncDir()); code != 0 {
			return code
		}
	}
}

func (m *modelStable) log() modelLog {
	return modelLog{m.known.SnapIndex, m.known.SnapTerm, m.known.Entries}
}

// behind: the entries that stay behind a snapshot, and whether the log goes with it.
func (l modelLog) behind(index, term int) ([]impl.Entry, bool) {
	if index <= l.last() && l.term(index) == term {
		return l.entries[index-l.base:], true
	}
	return nil, false
}

func (m *modelStable) vote(term, vote int) int {
	k := &m.known
	if term < k.Term || term > impl.MaxTerm || vote < 0 || vote > 7 || term == k.Term && k.Vote != 0 && vote != k.Vote {
		return impl.ErrRange
	}
	if code := m.replace("meta", meta(term, vote)); code != 0 {
		m.failed = true
		return code
	}
	k.Term, k.Vote = term, vote
	return 0
}

func (m *modelStable) append(entries []impl.Entry) int {
	l := m.log()
	all, before, data := slices.Clone(l.entries), l.term(l.last()), ""
	for _, e := range entries {
		if len(e.Data) > 128 || e.Term < before || e.Term > m.known.Term {
			return impl.ErrRange
		}
		before = e.Term
		all = append(all, e)
		if l.base+len(all) > impl.MaxIndex {
			return impl.ErrRange
		}
		data += entry(l.base+len(all), e.Term, string(e.Data))
	}
	if len(entries) == 0 {
		return 0
	}
	if code := m.appendBytes(l, data); code != 0 {
		m.failed = true
		return code
	}
	m.known.Entries = all
	return 0
}

func (m *modelStable) cut(from int) int {
	l := m.log()
	if from <= l.base || from > l.last() {
		return impl.ErrRange
	}
	if code := m.appendBytes(l, cutRec(from, l.term(from-1))); code != 0 {
		m.failed = true
		return code
	}
	m.known.Entries = slices.Clone(l.entries[:from-1-l.base])
	return 0
}

func (m *modelStable) snap(index, term int, state string) int {
	k, l := m.known, m.log()
	if index <= k.SnapIndex || index > impl.MaxIndex || term < k.SnapTerm || term > k.Term || len(state) > 8000 {
		return impl.ErrRange
	}
	name := snapFile(index)
	stay, goes := l.behind(index, term)
	code := then(
		func() int {
			return m.steps(create(name), write(name, 0, snapRec(index, term, state)), sync(name), syncDir())
		},
		func() int { return m.replace("manifest", manifest(index)) },
		func() int {
			if k.SnapIndex == 0 {
				return 0
			}
			return m.steps(remove(snapFile(k.SnapIndex)), syncDir())
		},
		func() int {
			if goes {
				return 0
			}
			return m.appendBytes(l, resetRec(index, term))
		},
		func() int { return m.oldSegments(index) },
	)
	m.failed = code != 0
	m.known.SnapIndex, m.known.SnapTerm, m.known.State, m.known.Entries = index, term, []byte(state), slices.Clone(stay)
	return code
}

// alone: the numbers and the rest of the one record of a file.
func modelAlone(b []byte, kind int) ([]int, []byte, bool) {
	records, valid, _ := impl.FrameScan(b)
	if len(records) != 1 || valid != len(b) || records[0].Type != kind {
		return nil, nil, false
	}
	return modelRight(records[0])
}

// look: what the directory says, ahead of any change.
func (m *modelStable) look() (impl.Stable, impl.WalView, bool) {
	var k impl.Stable
	var none impl.WalView
	if b, there := m.file("meta"); there {
		n, _, right := modelAlone(b, 4)
		if !right {
			return k, none, false
		}
		k.Term, k.Vote = n[0], n[1]
	}
	if b, there := m.file("manifest"); there {
		n, _, right := modelAlone(b, 6)
		if !right || n[0] < 1 {
			return k, none, false
		}
		b, there = m.file(snapFile(n[0]))
		s, state, right := modelAlone(b, 5)
		if !there || !right || s[0] != n[0] {
			return k, none, false
		}
		k.SnapIndex, k.SnapTerm, k.State = s[0], s[1], slices.Clone(state)
	}
	w := modelWalRead(m.files())
	if w.Code != 0 || k.SnapIndex < w.Base {
		return k, none, false
	}
	l := modelLog{w.Base, w.BaseTerm, w.Entries}
	if l.term(l.last()) > k.Term || k.SnapTerm > k.Term {
		return k, none, false
	}
	return k, w, true
}

func (m *modelStable) removeStale(index int) int {
	some := false
	for _, f := range m.files() {
		stale := modelSnapName.MatchString(f.Name) && f.Name != fmt.Sprintf("snap%08d", index)
		if index == 0 && f.Name == "snap00000000" || strings.HasSuffix(f.Name, ".tmp") {
			stale = true
		}
		if stale {
			some = true
			if code := m.steps(remove(f.Name)); code != 0 {
				return code
			}
		}
	}
	if some {
		return m.steps(syncDir())
	}
	return 0
}

func (m *modelStable) trim(w impl.WalView) int {
	all := m.segments()
	if w.Drop {
		if code := m.steps(remove(wal(all[len(all)-1])), syncDir()); code != 0 {
			return code
		}
	}
	if len(w.Segments) == 0 {
		return 0
	}
	name := wal(w.Segments[len(w.Segments)-1])
	if b, _ := m.file(name); len(b) > w.Keep {
		return m.steps(cut(name, w.Keep), sync(name))
	}
	return 0
}

func (m *modelStable) recover() int {
	k, w, right := m.look()
	m.failed = true
	if !right {
		return impl.ErrCorrupt
	}
	l := modelLog{w.Base, w.BaseTerm, w.Entries}
	code := then(
		func() int { return m.removeStale(k.SnapIndex) },
		func() int { return m.trim(w) },
		func() int {
			if len(m.segments()) > 0 {
				return 0
			}
			l = modelLog{base: k.SnapIndex, baseTerm: k.SnapTerm}
			return m.steps(create(wal(1)), write(wal(1), 0, head(1, k.SnapIndex+1, k.SnapTerm)), sync(wal(1)), syncDir())
		},
		func() int {
			stay, goes := l.behind(k.SnapIndex, k.SnapTerm)
			k.Entries = slices.Clone(stay)
			if goes {
				return 0
			}
			return m.appendBytes(l, resetRec(k.SnapIndex, k.SnapTerm))
		},
		func() int { return m.oldSegments(k.SnapIndex) },
	)
	if code != 0 {
		return code
	}
	m.known, m.failed = k, false
	return 0
}

func (m *modelStable) view() impl.Stable {
	k := m.known
	k.Entries = slices.Clone(k.Entries)
	return k
}

func (m *modelStable) do(op impl.StableOp) impl.StableAns {
	switch op.Kind {
	case 5:
		m.disk.do(crash(op.Data...))
		if op.A > 0 {
			m.disk.do(fuse(op.A - 1))
		}
		if code := m.recover(); code != 0 {
			return impl.StableAns{Code: code}
		}
		return impl.StableAns{View: m.view()}
	case 6:
		m.disk.do(fuse(op.A))
		return impl.StableAns{}
	case 7:
		m.disk.do(capacity(op.A))
		return impl.StableAns{}
	}
	if op.Kind < 1 || op.Kind > 8 {
		return impl.StableAns{Code: impl.ErrKind}
	}
	if m.failed {
		return impl.StableAns{Code: impl.ErrFailed}
	}
	switch op.Kind {
	case 1:
		return impl.StableAns{Code: m.vote(op.A, op.B)}
	case 2:
		return impl.StableAns{Code: m.append(op.Entries)}
	case 3:
		return impl.StableAns{Code: m.cut(op.A)}
	case 4:
		return impl.StableAns{Code: m.snap(op.A, op.B, string(op.Data))}
	}
	return impl.StableAns{View: m.view()}
}

func (m *modelStable) synced() []impl.File { return modelFiles(m.disk.syncDir, m.disk.synced) }
