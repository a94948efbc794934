package tests

import (
	"fmt"
	"math"
	"math/rand/v2"
	"testing"

	"loop.example/s01723/impl"
)

// nearOr is a number near n, now and then a strange one.
func nearOr(r *rand.Rand, n int) int {
	if r.IntN(30) == 0 {
		return []int{math.MinInt, -1, 0, impl.MaxIndex, impl.MaxIndex + 1, impl.MaxTerm, impl.MaxTerm + 1, math.MaxInt}[r.IntN(8)]
	}
	return n + r.IntN(3) - 1
}

func randomEntries(r *rand.Rand, m *modelStable) []impl.Entry {
	l := m.log()
	term := l.term(l.last())
	var out []impl.Entry
	for range r.IntN(5) {
		if term < m.known.Term && r.IntN(3) == 0 {
			term = m.known.Term
		}
		e := impl.Entry{Term: term, Data: randomBytes(r, r.IntN(3)*r.IntN(40))}
		if r.IntN(60) == 0 {
			e.Term = nearOr(r, e.Term)
		}
		if r.IntN(60) == 0 {
			e.Data = randomBytes(r, impl.MaxData+r.IntN(2))
		}
		out = append(out, e)
	}
	return out
}

// randomStableOp is one that makes sense, mostly, to a node that knows what the model knows.
func randomStableOp(r *rand.Rand, m *modelStable, trouble bool) impl.StableOp {
	k, l := m.known, m.log()
	if m.failed && r.IntN(3) > 0 {
		return restartOp(r.IntN(2)*r.IntN(20), randomChoice(r)...)
	}
	if trouble && r.IntN(8) == 0 {
		switch r.IntN(5) {
		case 0, 1:
			return fuseOp(r.IntN(14) - 1)
		case 2:
			return capOp(r.IntN(900))
		case 3:
			return capOp(nearOr(r, impl.MaxImage))
		case 4:
			return impl.StableOp{Kind: r.IntN(12) - 2, A: nearOr(r, 1), B: nearOr(r, 1)}
		}
	}
	switch r.IntN(12) {
	case 0, 1:
		return voteOp(nearOr(r, k.Term), r.IntN(8))
	case 2:
		return voteOp(nearOr(r, k.Term), nearOr(r, k.Vote))
	case 3:
		return cutOp(nearOr(r, l.last()))
	case 4:
		return cutOp(nearOr(r, l.base+r.IntN(len(l.entries)+1)))
	case 5:
		index := l.base + r.IntN(len(l.entries)+1)
		return snapOp(nearOr(r, index), l.term(index), string(randomBytes(r, r.IntN(50))))
	case 6:
		return snapOp(nearOr(r, l.last()), nearOr(r, l.term(l.last())), string(randomBytes(r, r.IntN(50))))
	case 7:
		return loadOp()
	case 8:
		if !trouble {
			return restartOp(0, randomChoice(r)...)
		}
		return restartOp(r.IntN(2)*r.IntN(20), randomChoice(r)...)
	}
	return impl.StableOp{Kind: impl.StAppend, Entries: randomEntries(r, m)}
}

// randomDirectory has the files that a node may have left, now and then with a fault.
func randomDirectory(r *rand.Rand) []impl.File {
	pairs := []string{"other", "kept"}
	if r.IntN(8) > 0 {
		pairs = append(pairs, "meta", meta(r.IntN(10), r.IntN(8)))
	}
	if r.IntN(3) > 0 {
		index, term := 1+r.IntN(9), r.IntN(5)
		named := index + r.IntN(20)/19
		pairs = append(pairs, "manifest", manifest(named), snapFile(index), snapRec(index+r.IntN(20)/19, term, "state"))
	}
	for _, name := range []string{"meta.tmp", "manifest.tmp", ".tmp", "x.tmp", "snap00000000", "snap00000020", "snap99999999", "snapx", "wal00000000"} {
		if r.IntN(6) == 0 {
			pairs = append(pairs, name, "stale")
		}
	}
	if r.IntN(8) > 0 {
		log := randomLog(r, r.IntN(4) == 0)
		for r.IntN(4) == 0 {
			log = spoil(r, log)
		}
		for _, f := range log {
			pairs = append(pairs, f.Name, string(f.Data))
		}
	}
	files := sorted(pairs...)
	if r.IntN(12) == 0 {
		files = spoil(r, files)
	}
	return files
}

// Promise 5: any directory is recovered as the model recovers it, and again without a change.
func TestRecoverAgainstModel(t *testing.T) {
	r := rand.New(rand.NewPCG(5, 1))
	codes := map[int]int{}
	for range 40000 {
		files := randomDirectory(r)
		if impl.WalRead(files).Code == impl.ErrImage {
			continue
		}
		before := tellFiles(files)
		got, behind, code := impl.Recover(files)
		m, wantCode := newModelStable(files, impl.MaxImage)
		var want impl.Stable
		var wantBehind []impl.File
		if wantCode == impl.OK {
			want, wantBehind = m.known, m.synced()
		}
		if code != wantCode || tellStable(got) != tellStable(want) || tellFiles(behind) != tellFiles(wantBehind) {
			t.Fatalf("%s\n got %d %s %s\nwant %d %s %s", before, code, tellStable(got), tellFiles(behind), wantCode, tellStable(want), tellFiles(wantBehind))
		}
		if tellFiles(files) != before {
			t.Fatal("the image was changed")
		}
		codes[code]++
		if code == impl.OK {
			wantRecovered(t, "again", files, got, behind)
		}
	}
	if codes[impl.OK] < 5000 || codes[impl.ErrCorrupt] < 5000 {
		t.Errorf("the directories are too much alike: %v", codes)
	}
}

// Promise 6: runs of any operations answer as the model does.
func TestStableAgainstModel(t *testing.T) {
	r := rand.New(rand.NewPCG(6, 1))
	seen := map[string]int{}
	for n := range 12000 {
		var files []impl.File
		if n%3 == 0 {
			files = randomDirectory(r)
			if impl.WalRead(files).Code == impl.ErrImage {
				continue
			}
		}
		room := []int{-1, 200, 600, 1500, math.MaxInt, math.MaxInt}[r.IntN(6)]
		m, _ := newModelStable(files, room)
		var ops []impl.StableOp
		var want impl.StableOut
		for range r.IntN(60) {
			op := randomStableOp(r, m, n%4 != 1)
			ops = append(ops, op)
			a := m.do(op)
			want.Answers = append(want.Answers, a)
			seen[fmt.Sprint(op.Kind, " ", a.Code)]++
		}
		want.Image = m.synced()
		if got := impl.StableRun(files, room, ops); tellStableOut(got) != tellStableOut(want) {
			t.Fatalf("capacity %d image %s\n%s\n got %s\nwant %s", room, tellFiles(files), tellOps(ops), tellStableOut(got), tellStableOut(want))
		}
	}
	for _, kind := range []int{impl.StVote, impl.StAppend, impl.StCut, impl.StSnap} {
		for _, code := range []int{impl.OK, impl.ErrRange, impl.ErrPower, impl.ErrFailed} {
			if key := fmt.Sprint(kind, " ", code); seen[key] < 20 {
				t.Errorf("kind and code %s came %d times only", key, seen[key])
			}
		}
	}
	for _, key := range []string{"1 6", "2 6", "4 6", "5 0", "5 6", "5 7", "5 8", "9 10", "8 0", "8 9"} {
		if seen[key] < 20 {
			t.Errorf("kind and code %s came %d times only", key, seen[key])
		}
	}
}

// Promise 6: a run that goes on with the image that another one has left answers as one run of all operations.
func TestStableGoesOn(t *testing.T) {
	r := rand.New(rand.NewPCG(6, 2))
	for range 3000 {
		m, _ := newModelStable(nil, impl.MaxImage)
		var ops []impl.StableOp
		for range 60 {
			ops = append(ops, randomStableOp(r, m, false))
			m.do(ops[len(ops)-1])
		}
		at := r.IntN(len(ops) + 1)
		whole := impl.StableRun(nil, impl.MaxImage, ops)
		first := impl.StableRun(nil, impl.MaxImage, ops[:at])
		second := impl.StableRun(first.Image, impl.MaxImage, ops[at:])
		got := impl.StableOut{Answers: append(first.Answers, second.Answers...)}
		if tellStableOut(got) != tellStableOut(impl.StableOut{Answers: whole.Answers}) {
			t.Fatalf("parted at %d\n%s\n got %s\nwant %s", at, tellOps(ops), tellStableOut(got), tellStableOut(whole))
		}
	}
}

// Promise 8: whatever befalls a node, its term never falls, and it votes for one in a term.
func TestStableVotes(t *testing.T) {
	r := rand.New(rand.NewPCG(8, 1))
	told := 0
	for range 6000 {
		m, _ := newModelStable(nil, impl.MaxImage)
		var ops []impl.StableOp
		for range 40 {
			op := randomStableOp(r, m, true)
			if r.IntN(3) == 0 {
				op = voteOp(nearOr(r, m.known.Term), r.IntN(8))
			}
			ops = append(ops, op)
			m.do(op)
		}
		term, vote := 0, 0
		for k, a := range impl.StableRun(nil, impl.MaxImage, ops).Answers {
			if a.Code != impl.OK || ops[k].Kind != impl.StLoad && ops[k].Kind != impl.StRestart {
				continue
			}
			told++
			if a.View.Term < term {
				t.Fatalf("%s the term falls at %d", tellOps(ops), k)
			}
			if a.View.Term > term {
				term, vote = a.View.Term, 0
			}
			if a.View.Vote != 0 && vote != 0 && a.View.Vote != vote {
				t.Fatalf("%s votes for %d and %d in term %d", tellOps(ops), vote, a.View.Vote, term)
			}
			vote = max(vote, a.View.Vote)
		}
	}
	if told < 10000 {
		t.Errorf("no more than %d views", told)
	}
}
