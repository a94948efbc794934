package tests

import (
	"fmt"
	"math"
	"slices"
	"strings"
	"testing"

	"loop.example/s01723/impl"
)

const room = impl.MaxImage

// Promise 6: who may be voted for.
func TestStableVote(t *testing.T) {
	ops := []impl.StableOp{
		voteOp(0, 3), voteOp(0, 3), voteOp(0, 0), voteOp(0, 4), // as to term 0
		voteOp(5, 0), voteOp(4, 0), voteOp(5, 0), voteOp(5, 7), voteOp(5, 7), voteOp(5, 0), voteOp(5, 1),
		voteOp(6, 8), voteOp(6, -1), voteOp(-1, 1), voteOp(math.MinInt, 1), voteOp(math.MaxInt, 1), voteOp(6, math.MaxInt), voteOp(6, math.MinInt),
		voteOp(impl.MaxTerm+1, 1), loadOp(), voteOp(impl.MaxTerm, 1), voteOp(impl.MaxTerm, 1), loadOp(),
	}
	const no = impl.ErrRange
	out := impl.StableRun(nil, room, ops)
	wantRun(t, "votes", out, stable(impl.MaxTerm, 1, 0, 0, ""), 0, 0, no, no, 0, no, 0, 0, 0, no, no, no, no, no, no, no, no, no, no, 0, 0, 0, 0)
	wantStable(t, "term 5", out.Answers[19].View, stable(5, 7, 0, 0, ""))
	wantFiles(t, "files", out.Image, image("meta", meta(impl.MaxTerm, 1), wal(1), head(1, 1, 0)))
}

// Promise 6: what may be appended.
func TestStableAppend(t *testing.T) {
	long := strings.Repeat("x", impl.MaxData)
	two := impl.StableOp{Kind: impl.StAppend, Entries: []impl.Entry{{Term: 1, Data: []byte("a")}, {Term: 3}}}
	falls := impl.StableOp{Kind: impl.StAppend, Entries: []impl.Entry{{Term: 3}, {Term: 2}}}
	rises := impl.StableOp{Kind: impl.StAppend, Entries: []impl.Entry{{Term: 3}, {Term: 4}}}
	ops := []impl.StableOp{
		appendOp(0), appendOp(1, "a"), voteOp(3, 0), appendOp(0), two, appendOp(2, "low"), appendOp(4, "high"), appendOp(-1, ""), appendOp(math.MaxInt, ""), falls, rises,
		appendOp(3, long+"x"), appendOp(3, "", long+"x"), appendOp(3, long), loadOp(),
	}
	const no = impl.ErrRange
	out := impl.StableRun(nil, room, ops)
	wantRun(t, "appended", out, stable(3, 0, 0, 0, "", 1, "a", 3, "", 3, long), 0, no, 0, 0, 0, no, no, no, no, no, no, no, no, 0, 0)
	wantFiles(t, "files", out.Image, image("meta", meta(3, 0), wal(1), head(1, 1, 0)+entry(1, 1, "a")+entry(2, 3, "")+entry(3, 3, long)))
}

// Promise 6: the last entry may have MaxIndex, the term ahead of the first one is the snapshot's.
func TestStableAppendBehindSnap(t *testing.T) {
	const no = impl.ErrRange
	ops := []impl.StableOp{voteOp(5, 0), snapOp(impl.MaxIndex-2, 4, "S"), appendOp(3, "low"), appendOp(4, "", "", ""), appendOp(4, "a"), appendOp(5, "b", "c"), appendOp(5, "b"), appendOp(5, "c"), appendOp(5), restartOp(0)}
	out := impl.StableRun(nil, room, ops)
	wantRun(t, "behind a snapshot", out, stable(5, 0, impl.MaxIndex-2, 4, "S", 4, "a", 5, "b"), 0, 0, no, no, 0, no, 0, no, 0, 0)
	ops = []impl.StableOp{voteOp(5, 0), snapOp(impl.MaxIndex, 5, "S"), appendOp(5, "a"), cutOp(impl.MaxIndex), snapOp(impl.MaxIndex, 5, "T"), snapOp(impl.MaxIndex+1, 5, "T"), restartOp(0)}
	out = impl.StableRun(nil, room, ops)
	wantRun(t, "at the end", out, stable(5, 0, impl.MaxIndex, 5, "S"), 0, 0, no, no, no, no, 0)
}

// Promise 6: entries that no file can hold are refused by the disk, and so the node fails.
func TestStableAppendTooMuch(t *testing.T) {
	many := make([]string, 65536/28+1)
	out := impl.StableRun(nil, room, []impl.StableOp{voteOp(1, 0), appendOp(1, many...), loadOp(), restartOp(0)})
	wantRun(t, "too much for a file", out, stable(1, 0, 0, 0, ""), 0, impl.ErrRange, impl.ErrFailed, 0)
	fits := (65536 - 36) / 28
	out = impl.StableRun(nil, room, []impl.StableOp{voteOp(1, 0), appendOp(1, many[:fits]...), appendOp(1, "a"), loadOp()})
	if len(out.Answers[3].View.Entries) != fits+1 || len(out.Image) != 3 {
		t.Errorf("what fits: %v with %d files", stableCodes(out), len(out.Image))
	}
}

// Promise 6: cuts at and below what is left.
func TestStableCut(t *testing.T) {
	const no = impl.ErrRange
	ops := []impl.StableOp{
		voteOp(4, 0), cutOp(1), cutOp(0), appendOp(1, "a", "b"), appendOp(2, "c"), cutOp(4), cutOp(0), cutOp(-1), cutOp(math.MaxInt), cutOp(math.MinInt), cutOp(3), cutOp(3), appendOp(3, "d"), restartOp(0),
		snapOp(2, 1, "S"), cutOp(2), cutOp(1), cutOp(3), cutOp(3), appendOp(1, "e"), restartOp(0),
	}
	out := impl.StableRun(nil, room, ops)
	wantRun(t, "cuts", out, stable(4, 0, 2, 1, "S", 1, "e"), 0, no, no, 0, 0, no, no, no, no, no, 0, no, 0, 0, 0, no, no, 0, no, 0, 0)
	wantStable(t, "cut of the last", out.Answers[13].View, stable(4, 0, 0, 0, "", 1, "a", 1, "b", 3, "d"))
	log := head(1, 1, 0) + entry(1, 1, "a") + entry(2, 1, "b") + entry(3, 2, "c") + cutRec(3, 1) + entry(3, 3, "d")
	log += cutRec(3, 1) + entry(3, 1, "e")
	wantFiles(t, "files", out.Image, sorted("manifest", manifest(2), "meta", meta(4, 0), snapFile(2), snapRec(2, 1, "S"), wal(1), log))
}

func TestStableSnapFaults(t *testing.T) {
	const no = impl.ErrRange
	big := strings.Repeat("s", impl.MaxState)
	ops := []impl.StableOp{
		voteOp(5, 0), snapOp(0, 0, ""), snapOp(-1, 0, ""), snapOp(math.MinInt, 0, ""), snapOp(impl.MaxIndex+1, 0, ""), snapOp(math.MaxInt, 0, ""),
		snapOp(3, 6, ""), snapOp(3, -1, ""), snapOp(3, math.MaxInt, ""), snapOp(3, 3, big+"s"), snapOp(3, 3, big), snapOp(3, 3, ""), snapOp(2, 3, ""), snapOp(4, 2, ""), snapOp(4, 3, ""), snapOp(5, 5, "T"), restartOp(0),
	}
	out := impl.StableRun(nil, room, ops)
	wantRun(t, "snapshots", out, stable(5, 0, 5, 5, "T"), 0, no, no, no, no, no, no, no, no, no, 0, no, no, no, 0, 0, 0)
	wantStable(t, "nothing", impl.StableRun(nil, room, append(ops[:11:11], loadOp())).Answers[11].View, stable(5, 0, 3, 3, big))
}

// Promise 6: a snapshot within, at and beyond the log's last, with the log's term and with another.
func TestStableSnap(t *testing.T) {
	begin := []impl.StableOp{voteOp(3, 1), appendOp(1, "a", "b"), appendOp(2, "c")}
	log := head(1, 1, 0) + entry(1, 1, "a") + entry(2, 1, "b") + entry(3, 2, "c")
	for _, c := range []struct {
		what        string
		index, term int
		stay        []any
		behind      string
	}{
		{"within", 1, 1, []any{1, "b", 2, "c"}, ""},
		{"within, ahead of another term", 2, 1, []any{2, "c"}, ""},
		{"at the last", 3, 2, nil, ""},
		{"beyond", 4, 2, nil, resetRec(4, 2)},
		{"far beyond", impl.MaxIndex, 3, nil, resetRec(impl.MaxIndex, 3)},
		{"within, another term", 2, 2, nil, resetRec(2, 2)},
		{"within, a smaller term", 2, 0, nil, resetRec(2, 0)},
		{"at the last, another term", 3, 3, nil, resetRec(3, 3)},
	} {
		out := impl.StableRun(nil, room, append(begin[:3:3], snapOp(c.index, c.term, "S"), loadOp()))
		want := stable(3, 1, c.index, c.term, "S", c.stay...)
		wantRun(t, c.what, out, want, 0, 0, 0, 0, 0)
		files := sorted("meta", meta(3, 1), "manifest", manifest(c.index), snapFile(c.index), snapRec(c.index, c.term, "S"), wal(1), log+c.behind)
		wantFiles(t, c.what, out.Image, files)
		wantRecovered(t, c.what, files, want, files)
	}
}

// entriesOf has that many entries whose records have 44 bytes each.
func entriesOf(n int) []string { return slices.Repeat([]string{"sixteen bytes.. "}, n) }

// Promise 6: a segment of exactly SegSize bytes is followed by another one, one of four bytes less is not.
func TestStableRolls(t *testing.T) {
	for _, c := range []struct {
		what string
		data []string
		size int
		roll bool
	}{
		{"252 bytes", []string{"12345678", "12345678", "12345678", "12345678", "12345678", "12345678"}, 252, false},
		{"256 bytes", entriesOf(5), 256, true},
		{"300 bytes", entriesOf(6), 300, true},
		{"a thousand", entriesOf(30), 36 + 30*44, true},
	} {
		n := len(c.data)
		begin := []impl.StableOp{voteOp(2, 0), appendOp(1, c.data...)}
		for _, op := range []impl.StableOp{appendOp(2, "z"), cutOp(2), snapOp(n+5, 2, "S")} {
			out := impl.StableRun(nil, room, append(begin[:2:2], op))
			var first, second string
			for _, f := range out.Image {
				switch f.Name {
				case wal(1):
					first = string(f.Data)
				case wal(2):
					second = string(f.Data)
				}
			}
			behind := map[int]string{impl.StAppend: entry(n+1, 2, "z"), impl.StCut: cutRec(2, 1), impl.StSnap: resetRec(n+5, 2)}[op.Kind]
			wantFirst, wantSecond := c.size+len(behind), ""
			if c.roll {
				wantFirst, wantSecond = c.size, head(2, n+1, 1)+behind
			}
			if c.roll && op.Kind == impl.StSnap {
				wantFirst = 0
			}
			if len(first) != wantFirst || second != wantSecond {
				t.Errorf("%s, kind %d: first has %d bytes, want %d; second %x, want %x", c.what, op.Kind, len(first), wantFirst, second, wantSecond)
			}
		}
	}
}

// Promise 6: old segments go while the next one begins at most one behind the snapshot.
func TestStableOldSegments(t *testing.T) {
	var begin []impl.StableOp
	begin = append(begin, voteOp(2, 0))
	for range 18 {
		begin = append(begin, appendOp(1, entriesOf(1)...))
	}
	// Five entries a segment: First is 1, 6, 11 and 16.
	for index, want := range map[int][]int{1: {1, 2, 3, 4}, 4: {1, 2, 3, 4}, 5: {2, 3, 4}, 6: {2, 3, 4}, 9: {2, 3, 4}, 10: {3, 4}, 14: {3, 4}, 15: {4}, 18: {4}} {
		out := impl.StableRun(nil, room, append(slices.Clone(begin), snapOp(index, 1, ""), loadOp(), restartOp(0)))
		w := impl.WalRead(out.Image)
		if !slices.Equal(w.Segments, want) {
			t.Errorf("snapshot at %d leaves %v, want %v", index, w.Segments, want)
		}
		for _, a := range out.Answers[len(begin)+1:] {
			if a.Code != impl.OK || a.View.SnapIndex != index || len(a.View.Entries) != 18-index {
				t.Errorf("snapshot at %d: %d %s", index, a.Code, tellStable(a.View))
			}
		}
	}
	// With a reset none of the entries stay; the segments go by their First all the same.
	for index, want := range map[int][]int{4: {1, 2, 3, 4}, 5: {2, 3, 4}, 18: {4}, 19: {4}} {
		out := impl.StableRun(nil, room, append(slices.Clone(begin), snapOp(index, 2, ""), restartOp(0)))
		if w := impl.WalRead(out.Image); !slices.Equal(w.Segments, want) || w.Base != index || w.BaseTerm != 2 || len(w.Entries) != 0 {
			t.Errorf("reset at %d leaves %s", index, tellWal(w))
		}
	}
}

// Promise 6: a cut below a segment's First lets a later segment begin further ahead than the one in front of it.
func TestStableCutBelowSegments(t *testing.T) {
	ops := []impl.StableOp{voteOp(1, 0), appendOp(1, entriesOf(5)...), appendOp(1, entriesOf(1)...), cutOp(3), appendOp(1, entriesOf(5)...), loadOp()}
	out := impl.StableRun(nil, room, ops)
	known := out.Answers[5].View
	w := impl.WalRead(out.Image)
	if len(known.Entries) != 7 || !slices.Equal(w.Segments, []int{1, 2}) || len(w.Entries) != 7 {
		t.Fatalf("%s %s", tellStable(known), tellWal(w))
	}
	// The second one begins at 6, the third at 8: a snapshot at 5 lets go of the first one, and the cut is below what is left.
	ops = append(ops, appendOp(1, entriesOf(1)...), snapOp(5, 1, "S"), loadOp(), restartOp(0))
	out = impl.StableRun(nil, room, ops)
	w = impl.WalRead(out.Image)
	if !slices.Equal(w.Segments, []int{2, 3}) || w.Base != 2 || w.BaseTerm != 1 || len(w.Entries) != 6 {
		t.Errorf("behind the snapshot: %s", tellWal(w))
	}
	if got := out.Answers[9]; got.Code != impl.OK || got.View.SnapIndex != 5 || len(got.View.Entries) != 3 || tellStable(got.View) != tellStable(out.Answers[8].View) {
		t.Errorf("recovered: %d %s", got.Code, tellStable(got.View))
	}
}

// Promise 6: there is no segment behind number 99999999.
func TestStableLastSegment(t *testing.T) {
	most := 99999999
	full := head(most, 1, 0)
	for k, d := range entriesOf(5) {
		full += entry(k+1, 1, d)
	}
	files := image("meta", meta(1, 0), wal(most), full)
	for _, op := range []impl.StableOp{appendOp(1, "a"), cutOp(5), snapOp(9, 1, "S")} {
		out := impl.StableRun(files, room, []impl.StableOp{op, loadOp(), restartOp(0)})
		codes := []int{impl.ErrFull, impl.ErrFailed, impl.OK}
		if op.Kind == impl.StSnap {
			codes[2] = impl.ErrFull
		}
		if !slices.Equal(stableCodes(out), codes) {
			t.Errorf("kind %d: %v", op.Kind, stableCodes(out))
		}
	}
	out := impl.StableRun(files, room, []impl.StableOp{fuseOp(0), appendOp(1, "a"), voteOp(1, 0)})
	if !slices.Equal(stableCodes(out), []int{0, impl.ErrFull, impl.ErrFailed}) {
		t.Errorf("with a burnt fuse: %v", stableCodes(out))
	}
	behind := sorted("meta", meta(1, 0), wal(most), full, "manifest", manifest(9), snapFile(9), snapRec(9, 1, ""))
	if st, left, code := impl.Recover(behind); code != impl.ErrFull || len(left) != 0 || tellStable(st) != tellStable(impl.Stable{}) {
		t.Errorf("recovery that must roll: %d", code)
	}
}

// Promise 6: codes of nodes that have failed, of other kinds, and of refused operations.
func TestStableCodes(t *testing.T) {
	all := []impl.StableOp{voteOp(1, 1), appendOp(1), cutOp(1), snapOp(1, 0, ""), fuseOp(-1), capOp(room), loadOp(), {}, {Kind: -1}, {Kind: 9}, {Kind: math.MaxInt}, {Kind: math.MinInt}}
	const f, k = impl.ErrFailed, impl.ErrKind
	out := impl.StableRun(image("meta", "bad"), room, append(all[:12:12], restartOp(0), loadOp()))
	want := []int{f, f, f, f, 0, 0, f, k, k, k, k, k, impl.ErrCorrupt, f}
	if !slices.Equal(stableCodes(out), want) {
		t.Errorf("corrupt: %v, want %v", stableCodes(out), want)
	}
	wantFiles(t, "corrupt", out.Image, image("meta", "bad"))
	for i, a := range out.Answers {
		if tellStable(a.View) != tellStable(impl.Stable{}) {
			t.Errorf("operation %d tells %s", i, tellStable(a.View))
		}
	}
	out = impl.StableRun(nil, room, all)
	if want := []int{0, 0, impl.ErrRange, 0, 0, 0, 0, k, k, k, k, k}; !slices.Equal(stableCodes(out), want) {
		t.Errorf("a node that runs: %v, want %v", stableCodes(out), want)
	}
	out = impl.StableRun(nil, 35, []impl.StableOp{loadOp(), capOp(36), loadOp(), restartOp(0), loadOp()})
	wantRun(t, "no room for the first segment", out, impl.Stable{}, f, 0, f, 0, 0)
	// A fuse outlives what it was set for, a restart ends it, and the rest of a restart's own fuse stays.
	out = impl.StableRun(nil, room, []impl.StableOp{fuseOp(6), voteOp(1, 0), voteOp(1, 1), restartOp(6, 255, 255), voteOp(2, 0), voteOp(2, 0), voteOp(2, 0), restartOp(0)})
	wantRun(t, "fuses", out, stable(1, 0, 0, 0, ""), 0, 0, impl.ErrPower, 0, impl.ErrPower, f, f, 0)
}

func TestStableBounds(t *testing.T) {
	if out := impl.StableRun(nil, room, make([]impl.StableOp, impl.MaxStableOps+1)); tellStableOut(out) != tellStableOut(impl.StableOut{Code: impl.ErrLarge}) {
		t.Errorf("too many operations: code %d", out.Code)
	}
	if out := impl.StableRun(nil, room, make([]impl.StableOp, impl.MaxStableOps)); out.Code != impl.OK || len(out.Answers) != impl.MaxStableOps {
		t.Errorf("the most operations: code %d", out.Code)
	}
	for _, files := range [][]impl.File{image("B", ""), image("b", "", "a", ""), image("a", "", "a", ""), image("", "")} {
		if out := impl.StableRun(files, room, make([]impl.StableOp, impl.MaxStableOps+1)); tellStableOut(out) != tellStableOut(impl.StableOut{Code: impl.ErrImage}) {
			t.Errorf("a bad image: %s", tellStableOut(out))
		}
		if st, left, code := impl.Recover(files); code != impl.ErrImage || len(left) != 0 || tellStable(st) != tellStable(impl.Stable{}) {
			t.Errorf("a bad image: recovered with %d", code)
		}
	}
}

// A run of the greatest size ends in good time.
func TestStableGreatRun(t *testing.T) {
	ops := []impl.StableOp{voteOp(1, 0)}
	for k := range impl.MaxStableOps - 1 {
		switch k % 300 {
		default:
			ops = append(ops, appendOp(1, fmt.Sprint(k)))
		case 150:
			ops = append(ops, restartOp(0))
		case 299:
			ops = append(ops, loadOp())
		}
	}
	ops[len(ops)-1] = loadOp()
	out := impl.StableRun(nil, room, ops)
	for k, c := range stableCodes(out) {
		if c != impl.OK {
			t.Fatalf("operation %d: %d", k, c)
		}
	}
	entries := 0
	for _, op := range ops {
		entries += len(op.Entries)
	}
	if got := len(out.Answers[len(ops)-1].View.Entries); got != entries {
		t.Errorf("%d entries, want %d", got, entries)
	}
}

// Rule 3 of chapter 1: answers share memory neither with arguments nor with one another.
func TestStableMemory(t *testing.T) {
	files := sorted("meta", meta(2, 0), "manifest", manifest(1), snapFile(1), snapRec(1, 1, "state"), wal(1), head(1, 1, 0)+entry(1, 1, "a")+entry(2, 1, "b"))
	ops := []impl.StableOp{appendOp(1, "cc"), loadOp(), loadOp(), snapOp(2, 1, "next"), loadOp(), restartOp(0, 1, 2), appendOp(1, "dd"), loadOp(), cutOp(4), appendOp(2, "ee"), loadOp()}
	from, asked := tellFiles(files), tellOps(ops)
	out := impl.StableRun(files, room, ops)
	if tellFiles(files) != from || tellOps(ops) != asked {
		t.Fatal("an argument was changed")
	}
	before := tellStableOut(out)
	for _, f := range files {
		clear(f.Data)
	}
	for _, op := range ops {
		clear(op.Data)
		for _, e := range op.Entries {
			clear(e.Data)
		}
	}
	if tellStableOut(out) != before {
		t.Error("the answer shares memory with an argument")
	}
	for k := range out.Answers {
		want := tellStableOut(impl.StableOut{Answers: out.Answers[k+1:], Image: out.Image})
		v := out.Answers[k].View
		clear(append(v.State, "overwritten by appending"...))
		clear(v.State)
		for _, e := range v.Entries {
			clear(append(e.Data, "overwritten by appending"...))
			clear(e.Data)
		}
		clear(v.Entries)
		if tellStableOut(impl.StableOut{Answers: out.Answers[k+1:], Image: out.Image}) != want {
			t.Errorf("answer %d shares memory with a later one", k)
		}
	}
}
