package tests

import (
	"fmt"
	"math"
	"strings"
	"testing"

	"loop.example/s01723/impl"
)

// Promise 1: what the operations do, told by the state that is left.
func TestDiskStates(t *testing.T) {
	x32, x40 := strings.Repeat("x", 32), strings.Repeat("x", 40)
	kept := image("a", "hello", "b", "B")
	for _, c := range []struct {
		what         string
		from         []impl.File
		ops          []impl.DiskOp
		live, synced []impl.File
		queue        int
	}{
		{"nothing", kept, nil, kept, kept, 0},
		{"create", nil, []impl.DiskOp{create("a")}, image("a", ""), nil, 1},
		{"write over and behind the end", kept, []impl.DiskOp{write("a", 3, "LOW")}, image("a", "helLOW", "b", "B"), kept, 1},
		{"write inside", kept, []impl.DiskOp{write("a", 1, "EL")}, image("a", "hELlo", "b", "B"), kept, 1},
		{"write of nothing", kept, []impl.DiskOp{write("a", 5, "")}, kept, kept, 0},
		{"a whole sector is one piece", kept, []impl.DiskOp{write("b", 0, x32)}, image("a", "hello", "b", x32), kept, 1},
		{"a byte more is two", kept, []impl.DiskOp{write("b", 0, x32+"y")}, image("a", "hello", "b", x32+"y"), kept, 2},
		{"a sector off the border is two", image("a", x32), []impl.DiskOp{write("a", 1, x32)}, image("a", x32+"x"), image("a", x32), 2},
		{"from border to border", image("a", x40), []impl.DiskOp{write("a", 32, x32)}, image("a", x32+x32), image("a", x40), 1},
		{"to a border", image("a", x40), []impl.DiskOp{write("a", 30, "AB")}, image("a", x32[:30]+"ABxxxxxxxx"), image("a", x40), 1},
		{"over a border", image("a", x40), []impl.DiskOp{write("a", 31, "AB")}, image("a", x32[:31]+"ABxxxxxxx"), image("a", x40), 2},
		{"cut", kept, []impl.DiskOp{cut("a", 2)}, image("a", "he", "b", "B"), kept, 1},
		{"cut to nothing", kept, []impl.DiskOp{cut("a", 0)}, image("a", "", "b", "B"), kept, 1},
		{"cut to the length", kept, []impl.DiskOp{cut("a", 5)}, kept, kept, 0},
		{"cut and written, synced", kept, []impl.DiskOp{cut("a", 2), write("a", 2, "y"), sync("a")}, image("a", "hey", "b", "B"), image("a", "hey", "b", "B"), 0},
		{"rename over another", kept, []impl.DiskOp{rename("a", "b")}, image("b", "hello"), kept, 1},
		{"rename to a new name", kept, []impl.DiskOp{rename("b", "c")}, image("a", "hello", "c", "B"), kept, 1},
		{"rename to itself", kept, []impl.DiskOp{rename("a", "a")}, kept, kept, 0},
		{"rename over another, directory synced", kept, []impl.DiskOp{rename("a", "b"), syncDir()}, image("b", "hello"), image("b", "hello"), 0},
		{"writes to a body that lost its name wait on", kept, []impl.DiskOp{write("b", 0, "C"), rename("a", "b"), sync("b"), syncDir()}, image("b", "hello"), image("b", "hello"), 1},
		{"remove", kept, []impl.DiskOp{remove("a")}, image("b", "B"), kept, 1},
		{"remove and create anew", kept, []impl.DiskOp{remove("a"), create("a"), write("a", 0, "N"), sync("a")}, image("a", "N", "b", "B"), kept, 2},
		{"the new body's name synced", kept, []impl.DiskOp{remove("a"), create("a"), write("a", 0, "N"), syncDir()}, image("a", "N", "b", "B"), image("a", "", "b", "B"), 1},
		{"sync is of one body", kept, []impl.DiskOp{write("a", 0, "H"), write("b", 0, "C"), sync("a")}, image("a", "Hello", "b", "C"), image("a", "Hello", "b", "B"), 1},
		{"sync follows the body to its new name", kept, []impl.DiskOp{write("a", 0, "H"), rename("a", "c"), sync("c")}, image("b", "B", "c", "Hello"), image("a", "Hello", "b", "B"), 1},
	} {
		out := impl.DiskRun(c.from, 999, c.ops)
		wantFiles(t, c.what+", live", out.Live, c.live)
		wantFiles(t, c.what+", synced", out.Synced, c.synced)
		if out.Queue != c.queue {
			t.Errorf("%s: %d queued, want %d", c.what, out.Queue, c.queue)
		}
	}
}

// Promise 1: which bytes of a choice keep what.
func TestDiskCrashChoices(t *testing.T) {
	old := image("a", "0123456789", "b", "B")
	piece := write("a", 2, "ABCDE")
	both := write("a", 10, strings.Repeat("p", 22)+"qrst")
	for _, c := range []struct {
		what   string
		ops    []impl.DiskOp
		choice []byte
		want   []impl.File
	}{
		{"no choice", []impl.DiskOp{piece, cut("a", 1), remove("b")}, nil, old},
		{"write 0", []impl.DiskOp{piece}, []byte{0}, old},
		{"write 255", []impl.DiskOp{piece}, []byte{255}, image("a", "01ABCDE789", "b", "B")},
		{"write 1", []impl.DiskOp{piece}, []byte{1}, image("a", "01A3456789", "b", "B")},
		{"write 4", []impl.DiskOp{piece}, []byte{4}, image("a", "01ABCD6789", "b", "B")},
		{"write 5 of 5 is none", []impl.DiskOp{piece}, []byte{5}, old},
		{"write 8", []impl.DiskOp{piece}, []byte{8}, image("a", "01ABC56789", "b", "B")},
		{"write 254", []impl.DiskOp{piece}, []byte{254}, image("a", "01ABCD6789", "b", "B")},
		{"one byte is never torn", []impl.DiskOp{write("a", 0, "X")}, []byte{77}, old},
		{"one byte is kept whole", []impl.DiskOp{write("a", 0, "X")}, []byte{255}, image("a", "X123456789", "b", "B")},
		{"cut odd", []impl.DiskOp{cut("a", 3)}, []byte{1}, image("a", "012", "b", "B")},
		{"cut even", []impl.DiskOp{cut("a", 3)}, []byte{254}, old},
		{"cut 0", []impl.DiskOp{cut("a", 3)}, []byte{0}, old},
		{"cut 255", []impl.DiskOp{cut("a", 3)}, []byte{255}, image("a", "012", "b", "B")},
		{"remove odd", []impl.DiskOp{remove("a")}, []byte{253}, image("b", "B")},
		{"remove even", []impl.DiskOp{remove("a")}, []byte{2}, old},
		{"create 255", []impl.DiskOp{create("c")}, []byte{255}, image("a", "0123456789", "b", "B", "c", "")},
		{"rename odd is both names at once", []impl.DiskOp{rename("a", "b")}, []byte{3}, image("b", "0123456789")},
		{"rename even is neither", []impl.DiskOp{rename("a", "b")}, []byte{4}, old},
		{"rename to itself has no byte", []impl.DiskOp{rename("a", "a"), remove("b")}, []byte{1}, image("a", "0123456789")},
		{"a write of nothing has no byte", []impl.DiskOp{write("a", 0, ""), remove("b")}, []byte{1}, image("a", "0123456789")},
		{"a refused one has no byte", []impl.DiskOp{write("a", 11, "X"), remove("b")}, []byte{1}, image("a", "0123456789")},
		{"first piece lost, second kept", []impl.DiskOp{both}, []byte{0, 255}, image("a", "0123456789"+strings.Repeat("\x00", 22)+"qrst", "b", "B")},
		{"first piece kept, second torn", []impl.DiskOp{both}, []byte{255, 6}, image("a", "0123456789"+strings.Repeat("p", 22)+"qr", "b", "B")},
		{"a torn piece of none fills nothing", []impl.DiskOp{both}, []byte{22, 4}, old},
		{"choice shorter than the queue", []impl.DiskOp{both}, []byte{21}, image("a", "0123456789"+strings.Repeat("p", 21), "b", "B")},
		{"choice longer than the queue", []impl.DiskOp{piece}, []byte{255, 255, 1}, image("a", "01ABCDE789", "b", "B")},
		{"order of the queue", []impl.DiskOp{write("a", 0, "XY"), write("a", 1, "Z")}, []byte{255, 255}, image("a", "XZ23456789", "b", "B")},
		{"a synced one has left the queue", []impl.DiskOp{write("b", 0, "C"), piece, sync("b")}, []byte{255}, image("a", "01ABCDE789", "b", "C")},
		{"a cut to what isn't there leaves it", []impl.DiskOp{write("b", 1, "xyz"), cut("b", 3)}, []byte{0, 255}, old},
		{"the first of two renames lost: two names, one body", []impl.DiskOp{rename("a", "c"), rename("c", "d")}, []byte{0, 1},
			image("a", "0123456789", "b", "B", "d", "0123456789")},
		{"bytes to a body whose name is lost", []impl.DiskOp{create("c"), write("c", 0, "CC")}, []byte{0, 255}, old},
		{"bytes synced, name kept", []impl.DiskOp{create("c"), write("c", 0, "CC"), sync("c")}, []byte{255}, image("a", "0123456789", "b", "B", "c", "CC")},
		{"unsynced bytes of a body that was renamed over", []impl.DiskOp{write("b", 0, "C"), rename("a", "b")}, []byte{255, 0}, image("a", "0123456789", "b", "C")},
	} {
		out := impl.DiskRun(old, 999, append(c.ops, crash(c.choice...)))
		wantFiles(t, c.what+", live", out.Live, c.want)
		wantFiles(t, c.what+", synced", out.Synced, c.want)
		if out.Queue != 0 {
			t.Errorf("%s: %d queued behind a crash", c.what, out.Queue)
		}
	}
}

// Behind a crash two names may have one body: what is written by one name is read by the other, and its bytes count once.
func TestDiskTwoNames(t *testing.T) {
	out := impl.DiskRun(image("a", "12345"), 8, []impl.DiskOp{rename("a", "b"), rename("b", "c"), crash(0, 1), write("a", 5, "678"), read("c"),
		write("c", 8, "9"), remove("a"), sync("c"), syncDir(), crash()})
	wantCodes(t, out, 0, 0, 0, 0, 0, impl.ErrFull, 0, 0, 0, 0)
	if string(out.Answers[4].Data) != "12345678" {
		t.Errorf("read by the other name: %q", out.Answers[4].Data)
	}
	wantFiles(t, "synced", out.Synced, image("c", "12345678"))
}

func TestDiskFaults(t *testing.T) {
	long := strings.Repeat("n", 24)
	for _, name := range []string{"a", "z", "0", "9", ".", "-", "..", "a.tmp", "wal00000001", long} {
		wantCodes(t, impl.DiskRun(nil, 9, []impl.DiskOp{create(name), rename(name, "q"), rename("q", name), create(name)}), 0, 0, 0, impl.ErrExist)
		if out := impl.DiskRun(image(name, ""), 9, nil); out.Code != impl.OK {
			t.Errorf("image with the name %q: %d", name, out.Code)
		}
	}
	for _, name := range []string{"", "A", "Z", "_", "/", "a/b", ",", ":", "`", "{", " ", "a ", "\x00", "\xff", "ä", long + "n"} {
		wantCodes(t, impl.DiskRun(image("q", ""), 9, []impl.DiskOp{create(name), rename("q", name), rename("none", name), write(name, -1, "x")}),
			impl.ErrName, impl.ErrName, impl.ErrNone, impl.ErrNone)
		if out := impl.DiskRun(image(name, ""), 9, nil); out.Code != impl.ErrImage {
			t.Errorf("image with the name %q: %d", name, out.Code)
		}
	}
	var ops []impl.DiskOp
	var codes []int
	for kind := impl.DiskWrite; kind <= impl.DiskRead; kind++ {
		if kind != impl.DiskSyncDir {
			ops, codes = append(ops, impl.DiskOp{Kind: kind, Name: "none", A: -1, To: "A"}), append(codes, impl.ErrNone)
		}
	}
	for _, kind := range []int{0, -1, 12, 13, math.MaxInt, math.MinInt} {
		ops, codes = append(ops, impl.DiskOp{Kind: kind, Name: "a"}), append(codes, impl.ErrKind)
	}
	for _, a := range []int{-1, 3, math.MaxInt, math.MinInt, math.MaxInt - 1} {
		ops, codes = append(ops, write("a", a, "x"), cut("a", a)), append(codes, impl.ErrRange, impl.ErrRange)
	}
	out := impl.DiskRun(image("a", "12"), 9, ops)
	wantCodes(t, out, codes...)
	wantFiles(t, "refused operations change nothing", out.Live, image("a", "12"))
	if out.Queue != 0 {
		t.Errorf("refused operations queue nothing: %d", out.Queue)
	}
}

func TestDiskFileSize(t *testing.T) {
	whole := strings.Repeat("w", impl.MaxFileSize)
	out := impl.DiskRun(image("a", ""), impl.MaxImage, []impl.DiskOp{write("a", 0, whole+"w"), write("a", 0, whole), write("a", impl.MaxFileSize, ""),
		write("a", impl.MaxFileSize, "w"), write("a", impl.MaxFileSize-1, "v"), write("a", impl.MaxFileSize-1, "vv")})
	wantCodes(t, out, impl.ErrRange, 0, 0, impl.ErrRange, 0, impl.ErrRange)
	if out.Queue != impl.MaxFileSize/impl.Sector+1 {
		t.Errorf("queue %d", out.Queue)
	}
	wantFiles(t, "live", out.Live, image("a", whole[1:]+"v"))
	// ErrRange is looked for ahead of ErrFull.
	wantCodes(t, impl.DiskRun(image("a", ""), 0, []impl.DiskOp{write("a", 1, "x"), write("a", 0, whole+"w"), write("a", 0, "x"), write("a", 0, "")}),
		impl.ErrRange, impl.ErrRange, impl.ErrFull, 0)
}

func TestDiskCapacity(t *testing.T) {
	out := impl.DiskRun(image("a", "123", "b", "45"), 6, []impl.DiskOp{write("a", 3, "xy"), write("a", 3, "x"), write("b", 2, "x"), write("b", 0, "zz"),
		cut("a", 0), write("b", 2, "1234"), write("b", 6, "5"), capacity(-1), write("b", 0, "x"), write("b", 0, ""), create("c"), capacity(math.MaxInt), write("b", 6, "7"),
		capacity(7), remove("a"), rename("b", "c"), write("c", 7, "8"), capacity(8), write("c", 7, "8"), capacity(math.MinInt), crash(), write("a", 0, "")})
	wantCodes(t, out, impl.ErrFull, 0, impl.ErrFull, 0, 0, 0, impl.ErrFull, 0, impl.ErrFull, impl.ErrFull, 0, 0, 0,
		0, 0, 0, impl.ErrFull, 0, 0, 0, 0, impl.ErrFull)
	// A removed file's bytes count no more, whether that is synced or not.
	wantCodes(t, impl.DiskRun(image("a", "1234", "b", ""), 4, []impl.DiskOp{write("b", 0, "x"), remove("a"), write("b", 0, "xyzw")}), impl.ErrFull, 0, 0)
	wantCodes(t, impl.DiskRun(image("a", "1234", "b", ""), 4, []impl.DiskOp{rename("b", "a"), write("a", 0, "xyzw")}), 0, 0)
	// The first capacity is bounded as Cap bounds it, and may be smaller than the image.
	wantCodes(t, impl.DiskRun(image("a", ""), -5, []impl.DiskOp{write("a", 0, ""), write("a", 0, "x")}), 0, impl.ErrFull)
	wantCodes(t, impl.DiskRun(image("a", "12"), 1, []impl.DiskOp{write("a", 0, "x"), cut("a", 1), write("a", 0, "x")}), impl.ErrFull, 0, 0)
	quarter := strings.Repeat("q", impl.MaxFileSize)
	wantCodes(t, impl.DiskRun(image("a", quarter, "b", quarter, "c", quarter, "d", quarter, "e", ""), math.MaxInt,
		[]impl.DiskOp{write("a", 0, "x"), write("e", 0, "x")}), 0, impl.ErrFull)
}

func TestDiskFuse(t *testing.T) {
	// Every kind of step burns the fuse, also where it changes nothing; reads, refused steps and the others don't.
	steps := []impl.DiskOp{create("b"), write("a", 0, "x"), write("a", 0, ""), cut("a", 2), rename("a", "a"), rename("a", "c"), remove("b"), sync("c"), syncDir()}
	for n := range len(steps) + 1 {
		ops := []impl.DiskOp{fuse(n)}
		codes := []int{0}
		for k, op := range steps {
			ops = append(ops, create("A"), op, read("c"), impl.DiskOp{Kind: 12}, capacity(9))
			first, second, reading, kind := impl.ErrName, 0, impl.ErrNone, impl.ErrKind
			if k > 5 || k == 5 && n > 5 {
				reading = 0
			}
			if k > n {
				first = impl.ErrPower
			}
			if k >= n {
				second, reading, kind = impl.ErrPower, impl.ErrPower, impl.ErrPower
			}
			codes = append(codes, first, second, reading, kind, 0)
		}
		wantCodes(t, impl.DiskRun(image("a", "12"), 9, ops), codes...)
	}
	// What burnt through is not carried out, a new fuse doesn't bring the power back, a crash does and takes the fuse away.
	out := impl.DiskRun(nil, 9, []impl.DiskOp{fuse(1), create("a"), create("b"), fuse(5), create("c"), fuse(-1), syncDir(), capacity(2), crash(255), create("b"),
		write("b", 0, "xyz"), write("b", 0, "xy"), sync("b"), syncDir()})
	wantCodes(t, out, 0, 0, impl.ErrPower, 0, impl.ErrPower, 0, impl.ErrPower, 0, 0, 0, impl.ErrFull, 0, 0, 0)
	wantFiles(t, "synced", out.Synced, image("a", "", "b", "xy"))
	// A fuse can be taken out again, or made longer, while the power is on; a crash takes it out too.
	wantCodes(t, impl.DiskRun(nil, 9, []impl.DiskOp{fuse(0), fuse(-7), create("a"), fuse(0), fuse(1), create("b"), fuse(0), crash(), create("c"), fuse(math.MaxInt), create("d"),
		fuse(math.MinInt), create("e")}), 0, 0, 0, 0, 0, 0, 0, 0, 0, 0, 0, 0, 0)
	// The state that a burnt fuse leaves is still told.
	out = impl.DiskRun(nil, 9, []impl.DiskOp{fuse(2), create("a"), write("a", 0, "x"), sync("a")})
	wantFiles(t, "live", out.Live, image("a", "x"))
	if len(out.Synced) != 0 || out.Queue != 2 {
		t.Errorf("without power: %s", tellOut(out))
	}
}

func manyFiles(n int) []impl.File {
	var out []impl.File
	for k := range n {
		out = append(out, impl.File{Name: fmt.Sprintf("f%04d", k)})
	}
	return out
}

func TestDiskManyNames(t *testing.T) {
	full := manyFiles(impl.MaxFiles)
	wantCodes(t, impl.DiskRun(full, 9, []impl.DiskOp{create("g"), create("f0000"), create("G"), rename("f0000", "g"), create("h"), rename("g", "f0001"), create("h"), create("i")}),
		impl.ErrFull, impl.ErrExist, impl.ErrName, 0, impl.ErrFull, 0, 0, impl.ErrFull)
	// A lost removal and a kept creation: a name more than may be created.
	out := impl.DiskRun(full, 9, []impl.DiskOp{remove("f0000"), create("g"), crash(0, 1), create("h"), remove("g"), create("h"), remove("f0001"), create("h"), create("i")})
	wantCodes(t, out, 0, 0, 0, impl.ErrFull, 0, impl.ErrFull, 0, 0, impl.ErrFull)
	if len(out.Synced) != impl.MaxFiles+1 || len(out.Live) != impl.MaxFiles {
		t.Errorf("%d and %d names", len(out.Synced), len(out.Live))
	}
}

func TestDiskImages(t *testing.T) {
	quarter := strings.Repeat("q", impl.MaxFileSize)
	for _, c := range []struct {
		what string
		from []impl.File
		code int
	}{
		{"empty", nil, impl.OK},
		{"names rise by bytes", image("-", "", ".", "", "0", "", "a", "", "a-", "", "aa", ""), impl.OK},
		{"names fall", image("b", "", "a", ""), impl.ErrImage},
		{"a name twice", image("a", "", "a", ""), impl.ErrImage},
		{"the longer name first", image("aa", "", "a", ""), impl.ErrImage},
		{"a bad name behind good ones", image("a", "", "b", "", "c_", ""), impl.ErrImage},
		{"greatest number of files", manyFiles(impl.MaxFiles), impl.OK},
		{"a file too many", manyFiles(impl.MaxFiles + 1), impl.ErrImage},
		{"greatest file", image("a", quarter), impl.OK},
		{"a byte too many", image("a", quarter+"x"), impl.ErrImage},
		{"greatest image", image("a", quarter, "b", quarter, "c", quarter, "d", quarter), impl.OK},
		{"too great an image", image("a", quarter, "b", quarter, "c", quarter, "d", quarter, "e", "x"), impl.ErrImage},
	} {
		out := impl.DiskRun(c.from, 1, []impl.DiskOp{read("a")})
		if out.Code != c.code {
			t.Errorf("%s: code %d, want %d", c.what, out.Code, c.code)
		}
		if c.code == impl.OK {
			wantFiles(t, c.what, out.Live, c.from)
			wantFiles(t, c.what, out.Synced, c.from)
		} else if len(out.Answers)+len(out.Live)+len(out.Synced)+out.Queue != 0 {
			t.Errorf("%s: something beside the code", c.what)
		}
	}
	many := make([]impl.DiskOp, impl.MaxDiskOps+1)
	if out := impl.DiskRun(image("a", "x"), 1, many); out.Code != impl.ErrLarge || len(out.Answers)+len(out.Live)+len(out.Synced)+out.Queue != 0 {
		t.Errorf("too many operations: code %d", out.Code)
	}
	if out := impl.DiskRun(image("b", "", "a", ""), 1, many); out.Code != impl.ErrImage {
		t.Errorf("a bad image and too many operations: code %d", out.Code)
	}
	if out := impl.DiskRun(nil, 1, many[1:]); out.Code != impl.OK || len(out.Answers) != impl.MaxDiskOps {
		t.Errorf("greatest number of operations: code %d", out.Code)
	}
}
