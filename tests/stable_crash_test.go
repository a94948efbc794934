package tests

import (
	"math/rand/v2"
	"slices"
	"testing"

	"loop.example/s01723/impl"
)

// inFlight is one operation on a node's image, and what the node knows ahead of it and behind it.
type inFlight struct {
	from          []impl.File
	op            impl.StableOp
	before, after impl.Stable
	steps         int
}

func newInFlight(t *testing.T, from []impl.File, op impl.StableOp) inFlight {
	t.Helper()
	out := impl.StableRun(from, room, []impl.StableOp{loadOp(), op, loadOp()})
	if out.Answers[0].Code != impl.OK || out.Answers[2].Code != impl.OK {
		t.Fatalf("codes %v", stableCodes(out))
	}
	f := inFlight{from: from, op: op, before: out.Answers[0].View, after: out.Answers[2].View}
	for impl.StableRun(from, room, []impl.StableOp{fuseOp(f.steps), op}).Answers[1].Code == impl.ErrPower {
		f.steps++
	}
	return f
}

// mayKnow: what the node knew, or that with the operation carried out too, or with the first few of the entries being appended.
func (f inFlight) mayKnow(st impl.Stable) bool {
	got := tellStable(st)
	if got == tellStable(f.before) || got == tellStable(f.after) {
		return true
	}
	if f.op.Kind != impl.StAppend {
		return false
	}
	for k := range f.op.Entries {
		some := f.before
		some.Entries = append(slices.Clone(f.before.Entries), f.op.Entries[:k]...)
		if got == tellStable(some) {
			return true
		}
	}
	return false
}

func (f inFlight) want(t *testing.T, ops ...impl.StableOp) {
	t.Helper()
	out := impl.StableRun(f.from, room, ops)
	last := out.Answers[len(ops)-1]
	if last.Code != impl.OK || !f.mayKnow(last.View) {
		t.Fatalf("%s\ncode %d\n   got %s\nbefore %s\n after %s", tellOps(ops), last.Code, tellStable(last.View), tellStable(f.before), tellStable(f.after))
	}
}

// crashEverywhere lets the power fail behind each step, with many choices; and again in each recovery of some.
func (f inFlight) crashEverywhere(t *testing.T, many, few, again [][]byte) {
	t.Helper()
	for k := range f.steps + 1 {
		for _, choice := range many {
			f.want(t, fuseOp(k), f.op, restartOp(0, choice...))
			f.want(t, fuseOp(k), f.op, restartOp(0, choice...), restartOp(0, 255, 255, 255))
		}
		for _, choice := range few {
			f.crashInRecovery(t, k, choice, again)
		}
	}
}

func (f inFlight) crashInRecovery(t *testing.T, k int, choice []byte, again [][]byte) {
	t.Helper()
	for j := 1; ; j++ {
		cutShort := []impl.StableOp{fuseOp(k), f.op, restartOp(j, choice...)}
		code := impl.StableRun(f.from, room, cutShort).Answers[2].Code
		for _, next := range again {
			f.want(t, append(cutShort[:3:3], restartOp(0, next...))...)
			f.want(t, append(cutShort[:3:3], restartOp(1+j/2, next...), restartOp(0, choice...))...)
		}
		if code == impl.OK {
			return
		}
		if code != impl.ErrPower {
			t.Fatalf("%s recovery answers %d", tellOps(cutShort), code)
		}
	}
}

// crashScript has each operation in each of its ways.
func crashScript() []impl.StableOp {
	return []impl.StableOp{
		voteOp(1, 2), voteOp(1, 2), appendOp(1, "a"), appendOp(1, "b", "", "c"), voteOp(2, 0), voteOp(2, 1),
		cutOp(3), appendOp(2, entriesOf(3)...), appendOp(2, "rolls", "here"), cutOp(4), cutOp(1), appendOp(1, entriesOf(4)...),
		snapOp(1, 1, "within"), appendOp(2, entriesOf(2)...), appendOp(2, "x"), snapOp(4, 1, "lets go"), snapOp(5, 2, "other term"),
		appendOp(2, entriesOf(5)...), snapOp(9, 2, "at"), voteOp(3, 0), appendOp(3, entriesOf(5)...), snapOp(40, 3, "beyond, rolls"),
		appendOp(3, "y"), snapOp(41, 3, "last"), snapOp(42, 3, "beyond"), appendOp(3),
	}
}

// Promises 6 and 7: a crash at any step of any operation, and of the recovery behind it.
func TestStableCrashes(t *testing.T) {
	many := append(choices(3), choices(12)...)
	few := [][]byte{nil, {255}, {0, 255}, {255, 7}, {255, 255, 3}, {7, 7, 7, 7}, slices.Repeat([]byte{255}, 12)}
	var image []impl.File
	for _, op := range crashScript() {
		f := newInFlight(t, image, op)
		f.crashEverywhere(t, many, few, [][]byte{nil, {255}, {0, 255}, {255, 30}, slices.Repeat([]byte{255}, 12)})
		out := impl.StableRun(image, room, []impl.StableOp{op})
		if out.Answers[0].Code != impl.OK {
			t.Errorf("%s answers %d", tellOps([]impl.StableOp{op}), out.Answers[0].Code)
		}
		image = out.Image
	}
}

// Promises 6 and 7, with random operations and choices.
func TestStableRandomCrashes(t *testing.T) {
	r := rand.New(rand.NewPCG(6, 7))
	for range 60 {
		m, _ := newModelStable(nil, room)
		var image []impl.File
		for range 30 {
			op := randomStableOp(r, m, false)
			m.do(op)
			if op.Kind <= impl.StSnap {
				f := newInFlight(t, image, op)
				f.crashEverywhere(t, [][]byte{randomChoice(r), randomChoice(r), randomChoice(r)}, [][]byte{randomChoice(r)}, [][]byte{randomChoice(r)})
			}
			image = impl.StableRun(image, room, []impl.StableOp{op}).Image
		}
	}
}
