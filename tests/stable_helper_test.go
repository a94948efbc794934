package tests

import (
	"encoding/binary"
	"fmt"
	"slices"
	"strings"
	"testing"

	"loop.example/s01723/impl"
)

// rec is a record laid down: its type, what its payload has behind the numbers, the numbers.
func rec(kind int, data string, numbers ...int) string {
	var p []byte
	for _, n := range numbers {
		p = binary.LittleEndian.AppendUint64(p, uint64(n))
	}
	b, code := impl.FrameEncode(impl.Record{Type: kind, Data: append(p, data...)})
	if code != impl.OK {
		panic("a record that can't be laid down")
	}
	return string(b)
}

func head(number, first, prevTerm int) string { return rec(impl.RecHead, "", number, first, prevTerm) }

func entry(index, term int, data string) string { return rec(impl.RecEntry, data, index, term) }

func cutRec(from, term int) string { return rec(impl.RecCut, "", from, term) }

func resetRec(index, term int) string { return rec(impl.RecReset, "", index, term) }

func meta(term, vote int) string { return rec(impl.RecMeta, "", term, vote) }

func manifest(index int) string { return rec(impl.RecManifest, "", index) }

func snapRec(index, term int, state string) string { return rec(impl.RecSnap, state, index, term) }

func wal(n int) string { return fmt.Sprintf("wal%08d", n) }

func snapFile(n int) string { return fmt.Sprintf("snap%08d", n) }

func voteOp(term, vote int) impl.StableOp {
	return impl.StableOp{Kind: impl.StVote, A: term, B: vote}
}

func appendOp(term int, data ...string) impl.StableOp {
	op := impl.StableOp{Kind: impl.StAppend}
	for _, d := range data {
		op.Entries = append(op.Entries, impl.Entry{Term: term, Data: []byte(d)})
	}
	return op
}

func cutOp(from int) impl.StableOp { return impl.StableOp{Kind: impl.StCut, A: from} }

func snapOp(index, term int, state string) impl.StableOp {
	return impl.StableOp{Kind: impl.StSnap, A: index, B: term, Data: []byte(state)}
}

// restartOp: fuse is 0 for none, else one more than its length.
func restartOp(fuse int, choice ...byte) impl.StableOp {
	return impl.StableOp{Kind: impl.StRestart, A: fuse, Data: choice}
}

func fuseOp(n int) impl.StableOp { return impl.StableOp{Kind: impl.StFuse, A: n} }

func capOp(n int) impl.StableOp { return impl.StableOp{Kind: impl.StCap, A: n} }

func loadOp() impl.StableOp { return impl.StableOp{Kind: impl.StLoad} }

// stable: entries are a term and data in turn.
func stable(term, vote, index, snapTerm int, state string, entries ...any) impl.Stable {
	st := impl.Stable{Term: term, Vote: vote, SnapIndex: index, SnapTerm: snapTerm, State: []byte(state)}
	for k := 0; k < len(entries); k += 2 {
		st.Entries = append(st.Entries, impl.Entry{Term: entries[k].(int), Data: []byte(entries[k+1].(string))})
	}
	return st
}

// sorted is an image whose files are given in any order.
func sorted(pairs ...string) []impl.File {
	out := image(pairs...)
	slices.SortFunc(out, func(a, b impl.File) int { return strings.Compare(a.Name, b.Name) })
	return out
}

func tellEntries(entries []impl.Entry) string {
	var s strings.Builder
	for _, e := range entries {
		fmt.Fprintf(&s, " %d:%x", e.Term, e.Data)
	}
	return s.String()
}

func tellStable(st impl.Stable) string {
	return fmt.Sprintf("term %d vote %d snap %d/%d %x entries%s", st.Term, st.Vote, st.SnapIndex, st.SnapTerm, st.State, tellEntries(st.Entries))
}

func tellWal(w impl.WalView) string {
	return fmt.Sprintf("code %d base %d/%d entries%s segments %d keep %d drop %t", w.Code, w.Base, w.BaseTerm, tellEntries(w.Entries), w.Segments, w.Keep, w.Drop)
}

func tellStableOut(out impl.StableOut) string {
	var s strings.Builder
	fmt.Fprintf(&s, "code %d\n", out.Code)
	for k, a := range out.Answers {
		fmt.Fprintf(&s, "answer %d: %d %s\n", k, a.Code, tellStable(a.View))
	}
	fmt.Fprintf(&s, "image %s", tellFiles(out.Image))
	return s.String()
}

func tellOps(ops []impl.StableOp) string {
	var s strings.Builder
	for k, op := range ops {
		fmt.Fprintf(&s, "%d: kind %d A %d B %d data %x entries%s\n", k, op.Kind, op.A, op.B, op.Data, tellEntries(op.Entries))
	}
	return s.String()
}

func stableCodes(out impl.StableOut) []int {
	var codes []int
	for _, a := range out.Answers {
		codes = append(codes, a.Code)
	}
	return codes
}

func wantWal(t *testing.T, what string, got, want impl.WalView) {
	t.Helper()
	if tellWal(got) != tellWal(want) {
		t.Errorf("%s: %s, want %s", what, tellWal(got), tellWal(want))
	}
}

func wantStable(t *testing.T, what string, got, want impl.Stable) {
	t.Helper()
	if tellStable(got) != tellStable(want) {
		t.Errorf("%s:\n got %s\nwant %s", what, tellStable(got), tellStable(want))
	}
}

// wantRun: codes of all operations, and what the last one tells.
func wantRun(t *testing.T, what string, out impl.StableOut, want impl.Stable, codes ...int) {
	t.Helper()
	if out.Code != impl.OK || !slices.Equal(stableCodes(out), codes) {
		t.Fatalf("%s: code %d, codes %v, want %v", what, out.Code, stableCodes(out), codes)
	}
	wantStable(t, what, out.Answers[len(codes)-1].View, want)
}

func wantRecovered(t *testing.T, what string, from []impl.File, want impl.Stable, files []impl.File) {
	t.Helper()
	got, behind, code := impl.Recover(from)
	if code != impl.OK {
		t.Errorf("%s: code %d", what, code)
		return
	}
	wantStable(t, what, got, want)
	wantFiles(t, what, behind, files)
	again, still, code := impl.Recover(behind)
	if code != impl.OK || tellStable(again) != tellStable(got) || tellFiles(still) != tellFiles(behind) {
		t.Errorf("%s: recovered again: code %d\n got %s %s\nwant %s %s", what, code, tellStable(again), tellFiles(still), tellStable(got), tellFiles(behind))
	}
}

func wantCorrupt(t *testing.T, what string, from []impl.File) {
	t.Helper()
	got, behind, code := impl.Recover(from)
	if code != impl.ErrCorrupt || tellStable(got) != tellStable(impl.Stable{}) || len(behind) != 0 {
		t.Errorf("%s: code %d, %s, %s", what, code, tellStable(got), tellFiles(behind))
	}
}
