package tests

import (
	"fmt"
	"math"
	"math/rand/v2"
	"slices"
	"strings"
	"testing"

	"loop.example/s01723/impl"
)

func TestSegmentNames(t *testing.T) {
	for n, want := range map[int]string{1: "wal00000001", 12345678: "wal12345678", 99999999: "wal99999999"} {
		if name, code := impl.SegmentName(n); name != want || code != impl.OK {
			t.Errorf("%d: %q %d", n, name, code)
		}
		if got := impl.SegmentNumber(want); got != n {
			t.Errorf("%s: %d", want, got)
		}
	}
	for _, n := range []int{0, -1, -99999999, 100000000, math.MaxInt, math.MinInt} {
		if name, code := impl.SegmentName(n); name != "" || code != impl.ErrRange {
			t.Errorf("%d: %q %d", n, name, code)
		}
	}
	for _, name := range []string{"", "wal", "wal00000000", "wal0000001", "wal000000001", "wal0000000a", "wal-0000001", "wal+0000001", "wal 0000001", "Wal00000001", "wax00000001",
		"wal00000001.tmp", "snap00000001", "00000001", "wal0000000\xff", "wal0000000:", "wal0000000/"} {
		if got := impl.SegmentNumber(name); got != 0 {
			t.Errorf("%q: %d", name, got)
		}
	}
}

// segmentWith has a head for the log behind index 4 with term 3, two entries, and what is put behind them.
func segmentWith(records ...string) []impl.File {
	return image(wal(1), head(1, 5, 3)+entry(5, 3, "a")+entry(6, 4, "b")+strings.Join(records, ""))
}

// Promise 4: each type of record with each of its numbers at and beyond its bounds, and with lengths that don't fit.
func TestWalRecords(t *testing.T) {
	long := strings.Repeat("d", impl.MaxData)
	for _, c := range []struct {
		what, record string
		base, term   int
		entries      []string // nil: corrupt
	}{
		{"entry", entry(7, 4, "c"), 4, 3, []string{"a", "b", "c"}},
		{"entry without data", entry(7, 4, ""), 4, 3, []string{"a", "b", ""}},
		{"longest entry", entry(7, 4, long), 4, 3, []string{"a", "b", long}},
		{"too long an entry", entry(7, 4, long+"d"), 0, 0, nil},
		{"entry that is too short", rec(impl.RecEntry, "1234567", 7), 0, 0, nil},
		{"entry of the greatest term", entry(7, impl.MaxTerm, "c"), 4, 3, []string{"a", "b", "c"}},
		{"entry beyond the greatest term", entry(7, impl.MaxTerm+1, "c"), 0, 0, nil},
		{"entry of a lower term", entry(7, 3, "c"), 0, 0, nil},
		{"entry that is there", entry(6, 4, "c"), 0, 0, nil},
		{"entry behind a gap", entry(8, 4, "c"), 0, 0, nil},
		{"entry 0", entry(0, 4, "c"), 0, 0, nil},
		{"entry of a negative index", entry(-1, 4, "c"), 0, 0, nil},
		{"entry of a negative term", entry(7, -1, "c"), 0, 0, nil},
		{"cut of one", cutRec(6, 3), 4, 3, []string{"a"}},
		{"cut of all", cutRec(5, 3), 4, 3, []string{}},
		{"cut of nothing", cutRec(7, 4), 4, 3, []string{"a", "b"}},
		{"cut beyond the last", cutRec(8, 4), 0, 0, nil},
		{"cut with another term", cutRec(6, 4), 0, 0, nil},
		{"cut at base with another term", cutRec(5, 4), 0, 0, nil},
		{"cut below base", cutRec(4, 2), 3, 2, []string{}},
		{"cut below base, of a greater term", cutRec(4, 9), 3, 9, []string{}},
		{"cut from 1", cutRec(1, 0), 0, 0, []string{}},
		{"cut from 1, of the greatest term", cutRec(1, impl.MaxTerm), 0, impl.MaxTerm, []string{}},
		{"cut beyond the greatest term", cutRec(1, impl.MaxTerm+1), 0, 0, nil},
		{"cut from 0", cutRec(0, 0), 0, 0, nil},
		{"cut of a negative place", cutRec(-1, 0), 0, 0, nil},
		{"cut of the greatest index", cutRec(impl.MaxIndex, 0), 0, 0, nil},
		{"cut with a byte more", rec(impl.RecCut, "x", 6, 3), 0, 0, nil},
		{"cut of one number", rec(impl.RecCut, "", 6), 0, 0, nil},
		{"reset", resetRec(9, 7), 9, 7, []string{}},
		{"reset to 0", resetRec(0, 0), 0, 0, []string{}},
		{"reset to the greatest", resetRec(impl.MaxIndex, impl.MaxTerm), impl.MaxIndex, impl.MaxTerm, []string{}},
		{"reset within the log", resetRec(5, 1), 5, 1, []string{}},
		{"reset beyond the greatest", resetRec(impl.MaxIndex+1, 0), 0, 0, nil},
		{"reset of a term beyond the greatest", resetRec(9, impl.MaxTerm+1), 0, 0, nil},
		{"reset of a negative index", resetRec(-1, 0), 0, 0, nil},
		{"reset of a negative term", resetRec(0, -1), 0, 0, nil},
		{"reset of the least integer", resetRec(math.MinInt, 0), 0, 0, nil},
		{"reset with a byte more", rec(impl.RecReset, "x", 9, 7), 0, 0, nil},
		{"reset of three numbers", rec(impl.RecReset, "", 9, 7, 0), 0, 0, nil},
		{"another head", head(1, 7, 4), 0, 0, nil},
		{"the next head", head(2, 7, 4), 0, 0, nil},
		{"meta", meta(4, 1), 0, 0, nil},
		{"snapshot", snapRec(5, 3, ""), 0, 0, nil},
		{"manifest", manifest(5), 0, 0, nil},
		{"type 8", rec(8, "", 1, 1), 0, 0, nil},
		{"type 255", rec(255, ""), 0, 0, nil},
	} {
		want := impl.WalView{Code: impl.ErrCorrupt}
		files := segmentWith(c.record)
		if c.entries != nil {
			want = impl.WalView{Base: c.base, BaseTerm: c.term, Segments: []int{1}, Keep: len(files[0].Data)}
			for k, e := range c.entries {
				term := []int{3, 4, 4}[k]
				if strings.HasSuffix(c.what, "greatest term") && k == 2 {
					term = impl.MaxTerm
				}
				want.Entries = append(want.Entries, impl.Entry{Term: term, Data: []byte(e)})
			}
		}
		wantWal(t, c.what, impl.WalRead(files), want)
	}
}

// Promise 4: the last index that an entry may have.
func TestWalGreatestIndex(t *testing.T) {
	from := head(1, impl.MaxIndex, 0)
	whole := image(wal(1), from+entry(impl.MaxIndex, 1, ""))
	wantWal(t, "greatest", impl.WalRead(whole), impl.WalView{Base: impl.MaxIndex - 1, Entries: []impl.Entry{{Term: 1}}, Segments: []int{1}, Keep: len(whole[0].Data)})
	beyond := image(wal(1), from+entry(impl.MaxIndex, 1, "")+entry(impl.MaxIndex+1, 1, ""))
	wantWal(t, "beyond", impl.WalRead(beyond), impl.WalView{Code: impl.ErrCorrupt})
}

// Promise 4: a head that isn't right drops the last segment, and makes a log of more segments corrupt.
func TestWalHeads(t *testing.T) {
	for _, c := range []struct {
		what, name, head string
		base, term       int
		right            bool
	}{
		{"right", wal(1), head(1, 5, 3), 4, 3, true},
		{"least", wal(1), head(1, 1, 0), 0, 0, true},
		{"greatest", wal(99999999), head(99999999, impl.MaxIndex, impl.MaxTerm), impl.MaxIndex - 1, impl.MaxTerm, true},
		{"First 0", wal(1), head(1, 0, 0), 0, 0, false},
		{"First negative", wal(1), head(1, -5, 0), 0, 0, false},
		{"First beyond", wal(1), head(1, impl.MaxIndex+1, 0), 0, 0, false},
		{"term beyond", wal(1), head(1, 1, impl.MaxTerm+1), 0, 0, false},
		{"term negative", wal(1), head(1, 1, -1), 0, 0, false},
		{"another's number", wal(1), head(2, 1, 0), 0, 0, false},
		{"number 0", wal(1), head(0, 1, 0), 0, 0, false},
		{"a byte more", wal(1), rec(impl.RecHead, "x", 1, 1, 0), 0, 0, false},
		{"two numbers", wal(1), rec(impl.RecHead, "", 1, 1), 0, 0, false},
		{"four numbers", wal(1), rec(impl.RecHead, "", 1, 1, 0, 0), 0, 0, false},
		{"another type with these numbers", wal(1), rec(8, "", 1, 1, 0), 0, 0, false},
		{"an entry", wal(1), entry(1, 1, "a"), 0, 0, false},
		{"a reset", wal(1), resetRec(1, 1), 0, 0, false},
		{"nothing", wal(1), "", 0, 0, false},
		{"torn", wal(1), head(1, 1, 0)[:35], 0, 0, false},
		{"zeros", wal(1), strings.Repeat("\x00", 36), 0, 0, false},
		{"a changed byte", wal(1), head(1, 1, 0)[:35] + "\x01", 0, 0, false},
	} {
		want := impl.WalView{Drop: true}
		if c.right {
			want = impl.WalView{Base: c.base, BaseTerm: c.term, Segments: []int{impl.SegmentNumber(c.name)}, Keep: 36}
		}
		wantWal(t, c.what, impl.WalRead(image(c.name, c.head)), want)
		if c.right {
			continue
		}
		wantWal(t, c.what+", records behind it", impl.WalRead(image(c.name, c.head+entry(1, 1, "a"))), want)
		wantWal(t, c.what+", not the last", impl.WalRead(image(wal(1), c.head, wal(2), head(2, 1, 0))), impl.WalView{Code: impl.ErrCorrupt})
		wantWal(t, c.what+", ahead of one that is dropped", impl.WalRead(image(wal(1), c.head, wal(2), "")), impl.WalView{Code: impl.ErrCorrupt})
	}
}

func TestWalSegments(t *testing.T) {
	one, two := head(3, 1, 0)+entry(1, 1, "a"), head(4, 2, 1)+entry(2, 2, "b")
	a, b := impl.Entry{Term: 1, Data: []byte("a")}, impl.Entry{Term: 2, Data: []byte("b")}
	both := impl.WalView{Entries: []impl.Entry{a, b}, Segments: []int{3, 4}, Keep: len(two)}
	corrupt := impl.WalView{Code: impl.ErrCorrupt}
	wantWal(t, "nothing", impl.WalRead(nil), impl.WalView{})
	wantWal(t, "other files", impl.WalRead(sorted("meta", "x", wal(0), "y", "wal00000001.tmp", "z", "wal", "", "snap00000001", "")), impl.WalView{})
	wantWal(t, "two", impl.WalRead(sorted(wal(3), one, wal(4), two, "a", "b", "zz", "", wal(0), "")), both)
	wantWal(t, "a gap", impl.WalRead(image(wal(3), one, wal(5), two)), corrupt)
	wantWal(t, "a gap ahead of one that tells nothing", impl.WalRead(image(wal(3), one, wal(5), "")), corrupt)
	wantWal(t, "a gap ahead of the last two", impl.WalRead(image(wal(1), one, wal(3), one, wal(4), two)), corrupt)
	dropped := impl.WalView{Entries: []impl.Entry{a, b}, Segments: []int{3, 4}, Keep: len(two), Drop: true}
	wantWal(t, "dropped", impl.WalRead(image(wal(3), one, wal(4), two, wal(5), "")), dropped)
	wantWal(t, "dropped, bytes behind the one ahead of it", impl.WalRead(image(wal(3), one, wal(4), two+"abc", wal(5), head(6, 3, 2))), dropped)
	wantWal(t, "bytes behind the last", impl.WalRead(image(wal(3), one, wal(4), two+entry(3, 2, "c")[:31])), both)
	wantWal(t, "a changed record behind the last", impl.WalRead(image(wal(3), one, wal(4), two+strings.Replace(entry(3, 2, "c"), "c", "d", 1)+entry(3, 2, "c"))), both)
	wantWal(t, "bytes behind the first", impl.WalRead(image(wal(3), one+"\x00", wal(4), two)), corrupt)
	wantWal(t, "First too great", impl.WalRead(image(wal(3), one, wal(4), head(4, 3, 1))), corrupt)
	wantWal(t, "First too small", impl.WalRead(image(wal(3), one, wal(4), head(4, 1, 1))), corrupt)
	wantWal(t, "another PrevTerm", impl.WalRead(image(wal(3), one, wal(4), head(4, 2, 2))), corrupt)
	wantWal(t, "PrevTerm by the base", impl.WalRead(image(wal(3), head(3, 6, 2), wal(4), head(4, 6, 2))), impl.WalView{Base: 5, BaseTerm: 2, Segments: []int{3, 4}, Keep: 36})
	wantWal(t, "another PrevTerm than the base's", impl.WalRead(image(wal(3), head(3, 6, 2), wal(4), head(4, 6, 1))), corrupt)
	wantWal(t, "an empty one in the midst", impl.WalRead(image(wal(3), one, wal(4), "", wal(5), head(5, 2, 1))), corrupt)
	wantWal(t, "an empty one at the beginning", impl.WalRead(image(wal(3), "", wal(4), head(4, 2, 1))), corrupt)
	wantWal(t, "a head behind an entry", impl.WalRead(image(wal(3), entry(1, 1, "a")+head(3, 2, 1), wal(4), head(4, 2, 1))), corrupt)
	wantWal(t, "a cut below the base, then a segment", impl.WalRead(image(wal(4), two+cutRec(1, 0)+entry(1, 2, "b"), wal(5), head(5, 2, 2)+entry(2, 2, "b"))),
		impl.WalView{Entries: []impl.Entry{b, b}, Segments: []int{4, 5}, Keep: 36 + 32})
	wantWal(t, "a reset, then a segment", impl.WalRead(image(wal(3), one+resetRec(7, 2), wal(4), head(4, 8, 2)+entry(8, 2, "b"))),
		impl.WalView{Base: 7, BaseTerm: 2, Entries: []impl.Entry{b}, Segments: []int{3, 4}, Keep: 36 + 32})
	wantWal(t, "names that fall", impl.WalRead(image(wal(4), two, wal(3), one)), impl.WalView{Code: impl.ErrImage})
	wantWal(t, "a bad name", impl.WalRead(image("A", "")), impl.WalView{Code: impl.ErrImage})
	wantWal(t, "too long a file", impl.WalRead(image(wal(1), strings.Repeat("a", impl.MaxFileSize+1))), impl.WalView{Code: impl.ErrImage})
}

// randomLog writes the segments of a log as a node might have, now and then with a fault.
func randomLog(r *rand.Rand, faults bool) []impl.File {
	number, first, term := 1+r.IntN(3), 1+r.IntN(4), r.IntN(3)
	l := modelLog{base: first - 1, baseTerm: term}
	files := image(wal(number), head(number, first, term))
	bad := func(n int) int {
		if faults && r.IntN(40) == 0 {
			return n + []int{-1, 1, math.MinInt, impl.MaxIndex, impl.MaxTerm}[r.IntN(5)]
		}
		return n
	}
	for range r.IntN(24) {
		f := &files[len(files)-1]
		end := l.last()
		switch r.IntN(8) {
		default:
			e := impl.Entry{Term: l.term(end) + r.IntN(4)/3, Data: randomBytes(r, r.IntN(20))}
			f.Data = append(f.Data, entry(bad(end+1), bad(e.Term), string(e.Data))...)
			l.entries = append(l.entries, e)
		case 0:
			from := max(1, l.base-1) + r.IntN(len(l.entries)+3)
			from = min(from, end+1)
			t := r.IntN(3)
			if from-1 >= l.base {
				t = l.term(from - 1)
				l.entries = slices.Clone(l.entries[:from-1-l.base])
			} else {
				l = modelLog{base: from - 1, baseTerm: t}
			}
			f.Data = append(f.Data, cutRec(bad(from), bad(t))...)
		case 1:
			l = modelLog{base: r.IntN(8), baseTerm: r.IntN(4)}
			f.Data = append(f.Data, resetRec(bad(l.base), bad(l.baseTerm))...)
		case 2, 3:
			number++
			files = append(files, image(wal(number), head(bad(number), bad(end+1), bad(l.term(end))))...)
		}
	}
	return files
}

// spoil changes an image in a way that a disk, or somebody else, might.
func spoil(r *rand.Rand, files []impl.File) []impl.File {
	if len(files) == 0 {
		return files
	}
	k := r.IntN(len(files))
	if r.IntN(2) == 0 {
		k = len(files) - 1
	}
	d := files[k].Data
	switch r.IntN(7) {
	case 0:
		files[k].Data = d[:r.IntN(len(d)+1)]
	case 1:
		if len(d) > 0 {
			d[r.IntN(len(d))] ^= byte(1 << r.IntN(8))
		}
	case 2:
		files[k].Data = append(d, randomBytes(r, r.IntN(40))...)
	case 3:
		return slices.Delete(files, k, k+1)
	case 4:
		files[k].Data = append(d, make([]byte, r.IntN(40))...)
	case 5:
		return slices.Delete(files, 0, 1)
	case 6:
		n := impl.SegmentNumber(files[len(files)-1].Name)
		return append(files, image(wal(n+1), string(randomBytes(r, r.IntN(2)*40)))...)
	}
	return files
}

// Promise 4: random logs, whole and spoilt, are read as the model reads them.
func TestWalAgainstModel(t *testing.T) {
	r := rand.New(rand.NewPCG(4, 1))
	codes := map[int]int{}
	for n := range 40000 {
		files := randomLog(r, n%2 == 1)
		for range r.IntN(3) {
			files = spoil(r, files)
		}
		before := tellFiles(files)
		got, want := impl.WalRead(files), modelWalRead(files)
		if tellWal(got) != tellWal(want) {
			t.Fatalf("%s\n got %s\nwant %s", tellFiles(files), tellWal(got), tellWal(want))
		}
		if tellFiles(files) != before {
			t.Fatal("the image was changed")
		}
		codes[got.Code]++
	}
	if codes[impl.OK] < 10000 || codes[impl.ErrCorrupt] < 10000 {
		t.Errorf("the logs are too much alike: %v", codes)
	}
}

// Rule 3 of chapter 1: what WalRead answers is its own.
func TestWalMemory(t *testing.T) {
	files := segmentWith(entry(7, 4, "ccc"))
	w := impl.WalRead(files)
	before := fmt.Sprint(w)
	clear(files[0].Data)
	if fmt.Sprint(w) != before {
		t.Error("the answer shares memory with the image")
	}
	for k := range w.Entries {
		d := append(w.Entries[k].Data, "overwritten by appending"...)
		clear(d)
		clear(w.Entries[k].Data)
	}
	if got := tellEntries(w.Entries); got != " 3:00 4:00 4:000000" {
		t.Errorf("two entries share memory:%s", got)
	}
}
