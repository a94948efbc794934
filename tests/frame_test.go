package tests

import (
	"bytes"
	"hash/crc32"
	"math"
	"math/rand/v2"
	"slices"
	"strings"
	"testing"

	"loop.example/s01723/impl"
)

func encode(t *testing.T, kind int, data []byte) []byte {
	t.Helper()
	b, code := impl.FrameEncode(impl.Record{Type: kind, Data: data})
	if code != impl.OK {
		t.Fatalf("type %d, %d bytes: code %d", kind, len(data), code)
	}
	return b
}

// bitSum is the sum as chapter 3 tells it, bit by bit.
func bitSum(data []byte) uint32 {
	sum := uint32(0xFFFFFFFF)
	for _, c := range data {
		sum ^= uint32(c)
		for range 8 {
			out := sum & 1
			sum >>= 1
			if out == 1 {
				sum ^= 0x82F63B78
			}
		}
	}
	return sum ^ 0xFFFFFFFF
}

// Promise 3: the sum.
func TestSum(t *testing.T) {
	if s := impl.Crc32c([]byte("123456789")); s != 0xE3069283 {
		t.Errorf("the document's sum: %x", s)
	}
	if s := impl.Crc32c(nil); s != 0 {
		t.Errorf("of nothing: %x", s)
	}
	for a := range 256 {
		for b := range 256 {
			data := []byte{byte(a), byte(b)}
			if s := impl.Crc32c(data); s != bitSum(data) {
				t.Fatalf("% x: %x, want %x", data, s, bitSum(data))
			}
		}
	}
	table := crc32.MakeTable(crc32.Castagnoli)
	r := rand.New(rand.NewPCG(5, 6))
	for n := range 3000 {
		data := randomBytes(r, n)
		if s := impl.Crc32c(data); s != crc32.Checksum(data, table) {
			t.Fatalf("%d bytes: %x, want %x", n, s, crc32.Checksum(data, table))
		}
	}
}

// Promise 2: the bytes of a record, put together by hand.
func TestFrameBytes(t *testing.T) {
	r := rand.New(rand.NewPCG(7, 8))
	for _, size := range []int{0, 1, 2, 3, 4, 5, 31, 255, 256, 257, 8191, impl.MaxPayload} {
		for _, kind := range []int{1, 2, 7, 128, 255} {
			data := randomBytes(r, size)
			head := []byte{byte(size), byte(size >> 8), 0, 0, byte(kind), 0, 0, 0}
			sum := bitSum(slices.Concat(head, data))
			want := slices.Concat(head, []byte{byte(sum), byte(sum >> 8), byte(sum >> 16), byte(sum >> 24)}, data)
			for len(want)%4 != 0 {
				want = append(want, 0)
			}
			if got := encode(t, kind, data); !bytes.Equal(got, want) {
				t.Errorf("type %d, %d bytes: % x, want % x", kind, size, got, want)
			}
		}
	}
	for _, c := range []impl.Record{{}, {Type: -1}, {Type: 256}, {Type: 257}, {Type: math.MaxInt}, {Type: math.MinInt}, {Type: 1, Data: make([]byte, impl.MaxPayload+1)},
		{Type: 0, Data: make([]byte, impl.MaxPayload+1)}} {
		if got, code := impl.FrameEncode(c); code != impl.ErrRange || len(got) != 0 {
			t.Errorf("type %d, %d bytes: %d bytes, code %d", c.Type, len(c.Data), len(got), code)
		}
	}
}

func sameRecords(a, b []impl.Record) bool {
	return slices.EqualFunc(a, b, func(x, y impl.Record) bool { return x.Type == y.Type && bytes.Equal(x.Data, y.Data) })
}

func randomRecords(t *testing.T, r *rand.Rand) (list []impl.Record, file []byte) {
	t.Helper()
	for range r.IntN(6) {
		size := r.IntN(40)
		if r.IntN(20) == 0 {
			size = []int{0, impl.MaxPayload - 1, impl.MaxPayload}[r.IntN(3)]
		}
		x := impl.Record{Type: 1 + r.IntN(255), Data: randomBytes(r, size)}
		list, file = append(list, x), append(file, encode(t, x.Type, x.Data)...)
	}
	return list, file
}

// Promise 2: what was laid down is given back, and at least that with any bytes behind.
func TestScanGivesBack(t *testing.T) {
	r := rand.New(rand.NewPCG(9, 10))
	for range 3000 {
		list, file := randomRecords(t, r)
		got, valid, reason := impl.FrameScan(file)
		if !sameRecords(got, list) || valid != len(file) || reason != impl.ScanEnd {
			t.Fatalf("% x: %d records, %d valid, reason %d", file, len(got), valid, reason)
		}
		behind := randomBytes(r, r.IntN(40))
		if r.IntN(2) == 0 {
			clear(behind)
		}
		got, valid, _ = impl.FrameScan(slices.Concat(file, behind))
		if len(got) < len(list) || !sameRecords(got[:len(list)], list) || valid < len(file) {
			t.Fatalf("% x with % x behind: %d records, %d valid", file, behind, len(got), valid)
		}
	}
	var file []byte
	for range 6000 {
		file = append(file, encode(t, 9, nil)...)
	}
	if got, valid, reason := impl.FrameScan(file); len(got) != 6000 || valid != len(file) || reason != impl.ScanEnd {
		t.Errorf("more bytes than a file may have: %d records, %d valid, reason %d", len(got), valid, reason)
	}
}

// A file that is cut short gives the records that are whole.
func TestScanOfCutFiles(t *testing.T) {
	first, second := encode(t, 1, []byte("abcde")), encode(t, 2, []byte("xy"))
	file := slices.Concat(first, second)
	for n := range len(file) + 1 {
		records, whole, why := 0, 0, impl.ScanShort
		if n >= len(first) {
			records, whole = 1, len(first)
		}
		if n == len(file) {
			records, whole = 2, len(file)
		}
		if n == whole {
			why = impl.ScanEnd
		}
		if got, valid, reason := impl.FrameScan(file[:n]); len(got) != records || valid != whole || reason != why {
			t.Errorf("%d bytes: %d records, %d valid, reason %d", n, len(got), valid, reason)
		}
	}
}

// Promise 3: with one byte changed, but for the length, the records ahead are given and no more.
func TestScanOfChangedBytes(t *testing.T) {
	first, second, third := encode(t, 1, []byte("abcde")), encode(t, 2, []byte("vwxyz")), encode(t, 3, []byte("third"))
	ahead := []impl.Record{{Type: 1, Data: []byte("abcde")}}
	for place := 4; place < len(second); place++ {
		for change := 1; change < 256; change++ {
			file := slices.Concat(first, second, third)
			file[len(first)+place] ^= byte(change)
			why := impl.ScanSum
			switch {
			case place > 4 && place < 8 || file[len(first)+4] == 0:
				why = impl.ScanHead
			case place >= 12+5:
				why = impl.ScanPad
			}
			got, valid, reason := impl.FrameScan(file)
			if !sameRecords(got, ahead) || valid != len(first) || reason != why {
				t.Fatalf("byte %d changed by %d: %d records, %d valid, reason %d, want %d", place, change, len(got), valid, reason, why)
			}
		}
	}
	r := rand.New(rand.NewPCG(11, 12))
	for range 2000 {
		list, file := randomRecords(t, r)
		last := encode(t, 1+r.IntN(255), randomBytes(r, r.IntN(200)))
		place := 4 + r.IntN(len(last)-4)
		last[place] ^= byte(1 + r.IntN(255))
		if got, valid, reason := impl.FrameScan(slices.Concat(file, last, file)); !sameRecords(got, list) || valid != len(file) || reason == impl.ScanEnd {
			t.Fatalf("byte %d changed: %d records, %d valid, reason %d", place, len(got), valid, reason)
		}
	}
}

// The reasons of a scan come in their order: each case has all the later faults too where it can.
func TestScanReasons(t *testing.T) {
	size := func(n int) string { return string([]byte{byte(n), byte(n >> 8), byte(n >> 16), byte(n >> 24)}) }
	zeros := strings.Repeat("\x00", 12)
	good := string(encode(t, 5, []byte("ab")))
	for _, c := range []struct {
		what, in string
		why      int
	}{
		{"nothing", "", impl.ScanEnd},
		{"one byte", "\xff", impl.ScanShort},
		{"eleven bytes of a bad head", "\xff\xff\xff\xff\x00\x01\x01\x01\xff\xff\xff", impl.ScanShort},
		{"eleven zeros", zeros[:11], impl.ScanShort},
		{"twelve zeros", zeros, impl.ScanHead},
		{"greatest length, short", size(impl.MaxPayload) + "\x01\x00\x00\x00" + zeros, impl.ScanShort},
		{"a length above, short", size(impl.MaxPayload+1) + "\x01\x00\x00\x00" + zeros, impl.ScanHead},
		{"a length of 2^31", size(1<<31) + "\x01\x00\x00\x00" + zeros, impl.ScanHead},
		{"a length of 2^32-1", size(1<<32-1) + "\x01\x00\x00\x00" + zeros, impl.ScanHead},
		{"a length of 65538", size(65538) + good[4:], impl.ScanHead},
		{"type 0, short", size(100) + "\x00\x00\x00\x00" + zeros, impl.ScanHead},
		{"first zero isn't", size(100) + "\x01\x01\x00\x00" + zeros, impl.ScanHead},
		{"second zero isn't", size(100) + "\x01\x00\x80\x00" + zeros, impl.ScanHead},
		{"third zero isn't", size(100) + "\x01\x00\x00\x01" + zeros, impl.ScanHead},
		{"filling zeros missing", good[:14], impl.ScanShort},
		{"one filling zero missing, sum wrong", good[:8] + "....ab\x00", impl.ScanShort},
		{"sum wrong and filling wrong", good[:8] + "....ab\x01\x01", impl.ScanSum},
		{"first filling byte", good[:14] + "\x01\x00", impl.ScanPad},
		{"last filling byte", good[:14] + "\x00\x80", impl.ScanPad},
		{"sum of 0", size(0) + "\x01\x00\x00\x00\x00\x00\x00\x00", impl.ScanSum},
	} {
		for _, ahead := range []string{"", good, good + good} {
			got, valid, reason := impl.FrameScan([]byte(ahead + c.in))
			if len(got) != len(ahead)/len(good) || valid != len(ahead) || reason != c.why {
				t.Errorf("%s behind %d bytes: %d records, %d valid, reason %d, want %d", c.what, len(ahead), len(got), valid, reason, c.why)
			}
		}
	}
}

// Rule 3 of chapter 1 for records.
func TestFrameMemory(t *testing.T) {
	data := []byte("payload")
	first := encode(t, 1, data)
	file := slices.Concat(first, encode(t, 2, []byte("more")))
	was := slices.Clone(file)
	records, _, _ := impl.FrameScan(file)
	impl.Crc32c(file)
	if string(data) != "payload" || !bytes.Equal(file, was) || len(records) != 2 {
		t.Fatalf("an argument was changed")
	}
	wantApart(t, [][]byte{data, first, file, records[0].Data, records[1].Data})
}
