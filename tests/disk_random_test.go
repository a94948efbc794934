package tests

import (
	"math"
	"math/rand/v2"
	"slices"
	"strings"
	"testing"

	"loop.example/s01723/impl"
)

func randomBytes(r *rand.Rand, n int) []byte {
	out := make([]byte, n)
	for k := range out {
		out[k] = byte(r.IntN(256))
	}
	return out
}

func randomChoice(r *rand.Rand) []byte {
	out := make([]byte, r.IntN(12))
	for k := range out {
		switch r.IntN(3) {
		case 0:
			out[k] = 255
		case 1:
			out[k] = byte(r.IntN(256))
		}
	}
	return out
}

var randomNames = []string{"a", "a", "b", "b", "c", "d", "e.tmp", "", "A"}

var randomNumbers = []int{0, 0, 1, 2, 5, 30, 31, 32, 33, 63, 64, 65, 96, -1, math.MaxInt, math.MinInt, impl.MaxFileSize}

func randomOp(r *rand.Rand) impl.DiskOp {
	kinds := []int{1, 1, 2, 2, 2, 2, 3, 3, 4, 4, 5, 6, 6, 7, 7, 8, 11}
	op := impl.DiskOp{Kind: kinds[r.IntN(len(kinds))]}
	if r.IntN(12) == 0 {
		op.Kind = r.IntN(15) - 1
	}
	op.Name = randomNames[r.IntN(len(randomNames))]
	op.To = randomNames[r.IntN(len(randomNames))]
	op.A = randomNumbers[r.IntN(len(randomNumbers))]
	switch op.Kind {
	case impl.DiskCrash:
		op.Data = randomChoice(r)
	case impl.DiskFuse:
		op.A = r.IntN(12) - 2
	case impl.DiskCap:
		op.A = r.IntN(400)
	default:
		op.Data = randomBytes(r, r.IntN(4)*r.IntN(30))
	}
	return op
}

func randomImage(r *rand.Rand) []impl.File {
	var out []impl.File
	for _, name := range []string{"a", "b", "c", "d"} {
		if r.IntN(2) == 0 {
			out = append(out, impl.File{Name: name, Data: randomBytes(r, r.IntN(3)*r.IntN(40))})
		}
	}
	return out
}

// Promise 1: runs of any operations leave what the model, which follows chapter 2 word by word, leaves.
func TestDiskAgainstModel(t *testing.T) {
	r := rand.New(rand.NewPCG(1, 2))
	for n := range 60000 {
		from, room := randomImage(r), []int{-1, 50, 150, 300, 1000, math.MaxInt}[r.IntN(6)]
		ops := make([]impl.DiskOp, r.IntN(40))
		for k := range ops {
			ops[k] = randomOp(r)
		}
		got, want := tellOut(impl.DiskRun(from, room, ops)), tellOut(modelRun(from, room, ops))
		if got != want {
			t.Fatalf("run %d: %s, capacity %d, %v\ngot %s\nwant %s", n, tellFiles(from), room, ops, got, want)
		}
	}
}

// Promise 1: all short runs out of a few operations, each behind a crash with one of a few choices.
func TestDiskShortRuns(t *testing.T) {
	from := image("a", strings.Repeat("o", 33), "b", "B")
	alphabet := []impl.DiskOp{create("c"), write("a", 30, "ABCDE"), write("b", 0, "xy"), cut("a", 31), rename("a", "b"), rename("b", "c"), rename("c", "a"),
		remove("b"), create("b"), sync("a"), sync("b"), syncDir()}
	choices := [][]byte{{}, {255, 255, 255, 255, 255}, {0, 255, 0, 255}, {3, 3, 3, 3, 3}, {0, 0, 1, 2, 255}, {255, 0, 1, 254, 1}}
	var walk func(ops []impl.DiskOp, left int)
	walk = func(ops []impl.DiskOp, left int) {
		for _, choice := range choices {
			run := append(slices.Clone(ops), crash(choice...))
			if got, want := tellOut(impl.DiskRun(from, 50, run)), tellOut(modelRun(from, 50, run)); got != want {
				t.Fatalf("%v\ngot %s\nwant %s", run, got, want)
			}
		}
		if left > 0 {
			for _, op := range alphabet {
				walk(append(slices.Clone(ops), op), left-1)
			}
		}
	}
	walk(nil, 4)
}

// Promise 1, its second sentence: what was synced with its name and not changed since is behind a crash as it was.
func TestDiskKeepsWhatIsSynced(t *testing.T) {
	r := rand.New(rand.NewPCG(3, 4))
	for n := range 20000 {
		var ops []impl.DiskOp
		for range r.IntN(15) {
			if op := randomOp(r); op.Kind != impl.DiskCap && op.Kind != impl.DiskFuse {
				ops = append(ops, op)
			}
		}
		data := randomBytes(r, r.IntN(100))
		ops = append(ops, create("x"), impl.DiskOp{Kind: impl.DiskWrite, Name: "x", Data: data}, sync("x"), syncDir())
		if r.IntN(2) == 0 {
			ops = append(ops, rename("x", "y"), rename("y", "x"), syncDir())
		}
		for range r.IntN(15) {
			ops = append(ops, randomOp(r))
		}
		ops = append(ops, impl.DiskOp{Kind: impl.DiskCrash, Data: randomBytes(r, r.IntN(40))}, read("x"))
		out := impl.DiskRun(randomImage(r), impl.MaxImage, ops)
		if last := out.Answers[len(ops)-1]; last.Code != impl.OK || !slices.Equal(last.Data, data) {
			t.Fatalf("run %d: %v: code %d, bytes %x, want %x", n, ops, last.Code, last.Data, data)
		}
	}
}

// The greatest runs end soon.
func TestDiskGreatRuns(t *testing.T) {
	whole := strings.Repeat("w", impl.MaxFileSize)
	ops := []impl.DiskOp{create("a"), create("b")}
	for len(ops) < impl.MaxDiskOps-4 {
		ops = append(ops, write("a", 0, whole), write("b", 0, "x"), sync("b"))
	}
	writes := (len(ops) - 2) / 3
	out := impl.DiskRun(nil, impl.MaxImage, ops)
	if out.Code != impl.OK || out.Queue != 2+writes*impl.MaxFileSize/impl.Sector {
		t.Errorf("code %d, %d queued", out.Code, out.Queue)
	}
	out = impl.DiskRun(nil, impl.MaxImage, append(ops, crash(255, 255, 255)))
	wantFiles(t, "first piece of the first write", out.Synced, image("a", whole[:32], "b", "x"))
}

func cloneOps(ops []impl.DiskOp) []impl.DiskOp {
	out := slices.Clone(ops)
	for k := range out {
		out[k].Data = slices.Clone(out[k].Data)
	}
	return out
}

// Rule 3 of chapter 1: arguments stay as they were, and no list of the answer shares memory with them or another.
func TestDiskMemory(t *testing.T) {
	from := image("a", "hello", "b", "B")
	ops := []impl.DiskOp{write("a", 0, "HELLO"), read("a"), read("a"), rename("a", "c"), rename("c", "d"), crash(255, 0, 1), create("e"), write("e", 0, "EEEE"), sync("e"),
		syncDir(), read("e"), write("e", 1, "fff")}
	fromWas, opsWas := tellFiles(from), cloneOps(ops)
	out := impl.DiskRun(from, 99, ops)
	if want := modelRun(image("a", "hello", "b", "B"), 99, opsWas); tellOut(out) != tellOut(want) {
		t.Fatalf("got %s\nwant %s", tellOut(out), tellOut(want))
	}
	var lists [][]byte
	for _, f := range slices.Concat(out.Live, out.Synced, from) {
		lists = append(lists, f.Data)
	}
	for _, a := range out.Answers {
		lists = append(lists, a.Data)
	}
	for _, op := range ops {
		lists = append(lists, op.Data)
	}
	if tellFiles(from) != fromWas || !slices.EqualFunc(ops, opsWas, func(x, y impl.DiskOp) bool { return string(x.Data) == string(y.Data) }) {
		t.Errorf("an argument was changed")
	}
	wantApart(t, lists)
}

// wantApart fills each list, to the end of its memory, with a number of its own and sees that all keep theirs.
func wantApart(t *testing.T, lists [][]byte) {
	t.Helper()
	for k, list := range lists {
		list = list[:cap(list)]
		for i := range list {
			list[i] = byte(k + 1)
		}
	}
	for k, list := range lists {
		for _, c := range list[:cap(list)] {
			if c != byte(k+1) {
				t.Fatalf("list %d shares memory with list %d", k, c-1)
			}
		}
	}
}
