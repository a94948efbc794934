package tests

import (
	"fmt"
	"slices"
	"strings"
	"testing"

	"loop.example/s01723/impl"
)

// choices are those of a crash over a queue: all of 0, 255, a torn and an even number over short ones, some over long ones.
func choices(queue int) [][]byte {
	out := [][]byte{nil}
	if queue > 3 {
		for _, b := range []byte{255, 1, 7, 30} {
			out = append(out, slices.Repeat([]byte{b}, queue))
		}
		for k := range queue {
			one, other := make([]byte, queue), slices.Repeat([]byte{255}, queue)
			one[k], other[k] = 255, 0
			out = append(out, one, other)
		}
		return out
	}
	for range queue {
		var longer [][]byte
		for _, c := range out {
			for _, b := range []byte{0, 255, 7, 30} {
				longer = append(longer, append(slices.Clone(c), b))
			}
		}
		out = longer
	}
	return out
}

// wantSteps cuts an operation off behind each of its steps, with all choices, and asks for what these steps leave.
func wantSteps(t *testing.T, what string, begin []impl.StableOp, op impl.StableOp, steps ...impl.DiskOp) {
	t.Helper()
	from := impl.StableRun(nil, room, begin).Image
	for k := range len(steps) + 1 {
		disk := append([]impl.DiskOp{fuse(k)}, steps...)
		cutOff := impl.DiskRun(from, room, disk)
		for n, a := range cutOff.Answers {
			if n > 0 && n <= k && a.Code != impl.OK || n > k && a.Code != impl.ErrPower {
				t.Fatalf("%s: step %d of the test answers %d", what, n, a.Code)
			}
		}
		code := impl.ErrPower
		if k == len(steps) {
			code = impl.OK
		}
		out := impl.StableRun(from, room, []impl.StableOp{fuseOp(k), op})
		if out.Answers[1].Code != code {
			t.Errorf("%s, %d steps: code %d, want %d", what, k, out.Answers[1].Code, code)
		}
		wantFiles(t, fmt.Sprint(what, " synced behind ", k, " steps"), out.Image, cutOff.Synced)
		for _, choice := range choices(cutOff.Queue) {
			// A fuse of no steps lets the recovery change nothing.
			out = impl.StableRun(from, room, []impl.StableOp{fuseOp(k), op, restartOp(1, choice...)})
			want := impl.DiskRun(from, room, append(slices.Clone(disk), crash(choice...)))
			wantFiles(t, fmt.Sprint(what, " behind ", k, " steps and a crash with ", choice), out.Image, want.Synced)
		}
	}
	whole := impl.StableRun(from, room, []impl.StableOp{fuseOp(len(steps)), op, appendOp(0), loadOp(), voteOp(impl.MaxTerm, 0)})
	if !slices.Equal(stableCodes(whole), []int{0, 0, 0, 0, impl.ErrPower}) {
		t.Errorf("%s: codes with the fuse that is just long enough: %v", what, stableCodes(whole))
	}
}

func replaceSteps(name, data string) []impl.DiskOp {
	tmp := name + ".tmp"
	return []impl.DiskOp{create(tmp), write(tmp, 0, data), sync(tmp), rename(tmp, name), syncDir()}
}

func makeSteps(name, data string) []impl.DiskOp {
	return []impl.DiskOp{create(name), write(name, 0, data), sync(name), syncDir()}
}

func addSteps(name string, at int, data string) []impl.DiskOp {
	return []impl.DiskOp{write(name, at, data), sync(name)}
}

func dropSteps(name string) []impl.DiskOp { return []impl.DiskOp{remove(name), syncDir()} }

// Promise 6: the steps of each operation, in their order.
func TestStepsOfVote(t *testing.T) {
	wantSteps(t, "first vote", nil, voteOp(1, 2), replaceSteps("meta", meta(1, 2))...)
	wantSteps(t, "next vote", []impl.StableOp{voteOp(1, 2)}, voteOp(3, 0), replaceSteps("meta", meta(3, 0))...)
	wantSteps(t, "nothing new", []impl.StableOp{voteOp(1, 2)}, voteOp(1, 2), replaceSteps("meta", meta(1, 2))...)
}

func TestStepsOfLog(t *testing.T) {
	one := []impl.StableOp{voteOp(2, 0), appendOp(1, "a")}
	wantSteps(t, "append", one, appendOp(2, "b"), addSteps(wal(1), 68, entry(2, 2, "b"))...)
	wantSteps(t, "append of three", one, appendOp(1, "b", "", strings.Repeat("c", 128)), addSteps(wal(1), 68, entry(2, 1, "b")+entry(3, 1, "")+entry(4, 1, strings.Repeat("c", 128)))...)
	wantSteps(t, "append of none", one, appendOp(1))
	wantSteps(t, "cut", one, cutOp(1), addSteps(wal(1), 68, cutRec(1, 0))...)
	full := []impl.StableOp{voteOp(2, 0), appendOp(1, entriesOf(5)...)}
	roll := makeSteps(wal(2), head(2, 6, 1))
	wantSteps(t, "append that rolls", full, appendOp(2, "b", "c"), append(roll, addSteps(wal(2), 36, entry(6, 2, "b")+entry(7, 2, "c"))...)...)
	wantSteps(t, "cut that rolls", full, cutOp(4), append(roll, addSteps(wal(2), 36, cutRec(4, 1))...)...)
}

func TestStepsOfSnap(t *testing.T) {
	begin := []impl.StableOp{voteOp(2, 0), appendOp(1, "a", "b")}
	first := append(makeSteps(snapFile(1), snapRec(1, 1, "S")), replaceSteps("manifest", manifest(1))...)
	wantSteps(t, "first snapshot", begin, snapOp(1, 1, "S"), first...)
	begin = append(begin, snapOp(1, 1, "S"))
	second := append(makeSteps(snapFile(2), snapRec(2, 1, "T")), replaceSteps("manifest", manifest(2))...)
	second = append(second, dropSteps(snapFile(1))...)
	wantSteps(t, "next snapshot", begin, snapOp(2, 1, "T"), second...)
	beyond := append(makeSteps(snapFile(9), snapRec(9, 2, "")), replaceSteps("manifest", manifest(9))...)
	beyond = append(beyond, dropSteps(snapFile(1))...)
	wantSteps(t, "snapshot beyond", begin, snapOp(9, 2, ""), append(beyond, addSteps(wal(1), 36+64, resetRec(9, 2))...)...)
	full := []impl.StableOp{voteOp(2, 0), appendOp(1, entriesOf(5)...)}
	rolls := append(makeSteps(snapFile(9), snapRec(9, 2, "")), replaceSteps("manifest", manifest(9))...)
	rolls = append(rolls, makeSteps(wal(2), head(2, 6, 1))...)
	rolls = append(rolls, addSteps(wal(2), 36, resetRec(9, 2))...)
	wantSteps(t, "snapshot that rolls", full, snapOp(9, 2, ""), append(rolls, dropSteps(wal(1))...)...)
	full = append(full, appendOp(1, entriesOf(5)...), appendOp(1, "a"))
	goes := append(makeSteps(snapFile(10), snapRec(10, 1, "")), replaceSteps("manifest", manifest(10))...)
	goes = append(goes, dropSteps(wal(1))...)
	wantSteps(t, "old segments", full, snapOp(10, 1, ""), append(goes, dropSteps(wal(2))...)...)
}

// wantRecoverySteps cuts off the recovery that follows a crash with this choice, behind each of its steps.
func wantRecoverySteps(t *testing.T, what string, capacity int, begin []impl.StableOp, choice []byte, steps ...impl.DiskOp) {
	t.Helper()
	from := impl.StableRun(nil, capacity, append(slices.Clone(begin), restartOp(1, choice...))).Image
	for k := range len(steps) + 1 {
		disk := append([]impl.DiskOp{fuse(k)}, steps...)
		cutOff := impl.DiskRun(from, room, disk)
		for n, a := range cutOff.Answers {
			if n > 0 && n <= k && a.Code != impl.OK || n > k && a.Code != impl.ErrPower {
				t.Fatalf("%s: step %d of the test answers %d", what, n, a.Code)
			}
		}
		code := impl.ErrPower
		if k == len(steps) {
			code = impl.OK
		}
		recovery := append(slices.Clone(begin), restartOp(k+1, choice...))
		out := impl.StableRun(nil, capacity, recovery)
		if got := out.Answers[len(begin)].Code; got != code {
			t.Errorf("%s, %d steps: code %d, want %d", what, k, got, code)
		}
		wantFiles(t, fmt.Sprint(what, " synced behind ", k, " steps"), out.Image, cutOff.Synced)
		for _, again := range choices(cutOff.Queue) {
			out = impl.StableRun(nil, capacity, append(slices.Clone(recovery), restartOp(1, again...)))
			want := impl.DiskRun(from, room, append(slices.Clone(disk), crash(again...)))
			wantFiles(t, fmt.Sprint(what, " behind ", k, " steps and a crash with ", again), out.Image, want.Synced)
		}
	}
}

// Promises 5 and 7: the steps of recovery, in their order.
func TestStepsOfRecovery(t *testing.T) {
	all := slices.Repeat([]byte{255}, 40)
	wantRecoverySteps(t, "nothing to do", room, []impl.StableOp{voteOp(1, 0)}, nil)
	wantRecoverySteps(t, "a file on its way", room, []impl.StableOp{voteOp(1, 0), fuseOp(1), voteOp(2, 0)}, all, remove("meta.tmp"), syncDir())
	// A disk without room refuses the head of the first segment, whose name is queued by then.
	wantRecoverySteps(t, "the first segment", 35, []impl.StableOp{capOp(room)}, nil, makeSteps(wal(1), head(1, 1, 0))...)
	wantRecoverySteps(t, "an empty first segment", 35, []impl.StableOp{capOp(room)}, all, append(dropSteps(wal(1)), makeSteps(wal(1), head(1, 1, 0))...)...)
	begin := []impl.StableOp{voteOp(2, 0), appendOp(1, "a", "b"), snapOp(1, 1, "S")}
	wantRecoverySteps(t, "stale files", room, append(begin[:3:3], fuseOp(7), snapOp(2, 1, "T")), all, remove("manifest.tmp"), remove(snapFile(2)), syncDir())
	wantRecoverySteps(t, "the old snapshot", room, append(begin[:3:3], fuseOp(9), snapOp(2, 1, "T")), nil, remove(snapFile(1)), syncDir())
	torn := append(begin[:3:3], fuseOp(1), appendOp(1, "c"))
	wantRecoverySteps(t, "a torn entry", room, torn, []byte{255}, cut(wal(1), 36+64), sync(wal(1)))
	full := []impl.StableOp{voteOp(2, 0), appendOp(1, entriesOf(5)...)}
	wantRecoverySteps(t, "an empty segment", room, append(full[:2:2], fuseOp(1), appendOp(1, "c")), all, remove(wal(2)), syncDir())
	wantRecoverySteps(t, "a segment with a torn head", room, append(full[:2:2], fuseOp(2), appendOp(1, "c")), []byte{255, 255, 3}, remove(wal(2)), syncDir())
	beyond := append(full[:2:2], fuseOp(9), snapOp(9, 2, ""))
	steps := append(makeSteps(wal(2), head(2, 6, 1)), addSteps(wal(2), 36, resetRec(9, 2))...)
	wantRecoverySteps(t, "a reset that rolls", room, beyond, nil, append(steps, dropSteps(wal(1))...)...)
	rolled := append(full[:2:2], fuseOp(13), snapOp(9, 2, ""))
	wantRecoverySteps(t, "a reset that has rolled", room, rolled, nil, append(addSteps(wal(2), 36, resetRec(9, 2)), dropSteps(wal(1))...)...)
	wantRecoverySteps(t, "a torn reset", room, append(full[:2:2], fuseOp(14), snapOp(9, 2, "")), []byte{7},
		append([]impl.DiskOp{cut(wal(2), 36), sync(wal(2)), write(wal(2), 36, resetRec(9, 2)), sync(wal(2))}, dropSteps(wal(1))...)...)
	many := append(full[:2:2], appendOp(1, entriesOf(5)...), appendOp(1, "a"), fuseOp(9), snapOp(10, 1, ""))
	wantRecoverySteps(t, "old segments", room, many, nil, append(dropSteps(wal(1)), dropSteps(wal(2))...)...)
}

// Promise 6: a full disk in the midst of a sequence: the steps ahead of it are made, none behind it.
func TestStepsOnFullDisk(t *testing.T) {
	begin := []impl.StableOp{voteOp(2, 0), appendOp(1, entriesOf(5)...)}
	from := impl.StableRun(nil, room, begin).Image
	used := 28 + 256
	for _, c := range []struct {
		what string
		op   impl.StableOp
		room int
		code int
		done []impl.DiskOp
	}{
		{"no room for meta.tmp", voteOp(3, 0), used + 27, impl.ErrFull, []impl.DiskOp{create("meta.tmp")}},
		{"room for meta.tmp", voteOp(3, 0), used + 28, impl.OK, replaceSteps("meta", meta(3, 0))},
		{"no room for a head", appendOp(1, ""), used + 35, impl.ErrFull, []impl.DiskOp{create(wal(2))}},
		{"no room behind a head", appendOp(1, ""), used + 36 + 27, impl.ErrFull, makeSteps(wal(2), head(2, 6, 1))},
		{"room behind a head", appendOp(1, ""), used + 36 + 28, impl.OK, append(makeSteps(wal(2), head(2, 6, 1)), addSteps(wal(2), 36, entry(6, 1, ""))...)},
		{"no room for a snapshot", snapOp(1, 1, "S"), used + 31, impl.ErrFull, []impl.DiskOp{create(snapFile(1))}},
		{"no room for a manifest", snapOp(1, 1, "S"), used + 32 + 19, impl.ErrFull, append(makeSteps(snapFile(1), snapRec(1, 1, "S")), create("manifest.tmp"))},
		{"no room for a reset", snapOp(9, 1, "S"), used + 32 + 20 + 36 + 27, impl.ErrFull,
			slices.Concat(makeSteps(snapFile(9), snapRec(9, 1, "S")), replaceSteps("manifest", manifest(9)), makeSteps(wal(2), head(2, 6, 1)))},
	} {
		out := impl.StableRun(from, c.room, []impl.StableOp{c.op, loadOp(), restartOp(1, slices.Repeat([]byte{255}, 9)...), capOp(room), restartOp(0)})
		failed := impl.ErrFailed
		if c.code == impl.OK {
			failed = impl.OK
		}
		if out.Answers[0].Code != c.code || out.Answers[1].Code != failed || out.Answers[4].Code != impl.OK {
			t.Errorf("%s: %v", c.what, stableCodes(out))
		}
		synced := impl.StableRun(from, c.room, []impl.StableOp{c.op})
		crashed := impl.StableRun(from, c.room, []impl.StableOp{c.op, restartOp(1, slices.Repeat([]byte{255}, 9)...)})
		wantFiles(t, c.what, synced.Image, impl.DiskRun(from, room, c.done).Synced)
		wantFiles(t, c.what+", crashed", crashed.Image, impl.DiskRun(from, room, c.done).Live)
	}
	names := impl.StableRun(sorted(filler(511, 0)...), room, []impl.StableOp{voteOp(1, 0), restartOp(0)})
	wantRun(t, "no name is left", names, impl.Stable{}, impl.ErrFull, 0)
}
