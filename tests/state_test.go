package tests

import (
	"math"
	"math/rand/v2"
	"slices"
	"strings"
	"testing"

	"loop.example/s01723/impl"
)

func wantState(t *testing.T, what string, s impl.Service) []byte {
	t.Helper()
	was := tellService(s)
	b, code := impl.EncodeState(s)
	if code != impl.OK || string(b) != modelState(s) {
		t.Errorf("%s: % x, code %d, want % x", what, b, code, modelState(s))
	}
	if tellService(s) != was {
		t.Fatalf("%s: the service was changed", what)
	}
	return b
}

func wantService(t *testing.T, what string, b []byte, want impl.Service) {
	t.Helper()
	if s, code := impl.DecodeState(b); code != impl.OK || tellService(s) != tellService(want) {
		t.Errorf("%s: %.300s, code %d, want %.300s", what, tellService(s), code, tellService(want))
	}
}

func wantNoService(t *testing.T, what string, b []byte) {
	t.Helper()
	if s, code := impl.DecodeState(b); code != impl.ErrRange || tellService(s) != tellService(impl.Service{}) {
		t.Errorf("%s: %.300s, code %d", what, tellService(s), code)
	}
}

// Promise 9: states of services at the edges of what is valid, and of such as aren't.
func TestStateEdges(t *testing.T) {
	for what, s := range validServices() {
		b := wantState(t, what, s)
		wantService(t, what, b, impl.Service{Base: s.Base + len(s.Kept), Sessions: s.Sessions})
	}
	for what, s := range wrongServices() {
		if b, code := impl.EncodeState(s); code != impl.ErrRange || len(b) != 0 {
			t.Errorf("%s: % x, code %d", what, b, code)
		}
		// The same numbers as bytes; without kept items the service may be right.
		bare := impl.Service{Base: s.Base, Sessions: s.Sessions}
		if !modelValid(bare) {
			wantNoService(t, what, []byte(modelState(bare)))
		}
	}
	every := impl.Service{Base: 50}
	for c := 1; c <= impl.MaxClients; c++ {
		every.Sessions = append(every.Sessions, session(c, c*c, 50-c, strings.Repeat("d", c)))
	}
	wantService(t, "all clients", wantState(t, "all clients", every), every)
}

// Promise 9: the bytes of a state, by hand.
func TestStateBytes(t *testing.T) {
	want := longs(6, 3) + longs(2, 6, 5, 0) + longs(7, 1, 4, 1) + "b" + longs(9, 1000000000, 0, 3) + "old"
	if b, code := impl.EncodeState(plainService()); code != impl.OK || string(b) != want {
		t.Errorf("% x, code %d", b, code)
	}
	if b, code := impl.EncodeState(impl.Service{}); code != impl.OK || string(b) != strings.Repeat("\x00", 16) {
		t.Errorf("of nothing: % x, code %d", b, code)
	}
	wantService(t, "by hand", []byte(want), impl.Service{Base: 6, Sessions: plainService().Sessions})
}

// Promise 9: states that are nearly right.
func TestStateNearlyRight(t *testing.T) {
	whole := modelState(plainService())
	for n := range len(whole) {
		wantNoService(t, "too few bytes", []byte(whole[:n]))
	}
	for _, more := range []string{"\x00", "d", strings.Repeat("\x00", 8), strings.Repeat("\x00", 32), longs(10, 1, 0, 0), whole} {
		wantNoService(t, "too many bytes", []byte(whole+more))
	}
	strange := []int{math.MinInt, math.MinInt + 1, -1, math.MaxInt, 1 << 62, 1 << 32, 1<<32 + 1, impl.MaxSeq + 1}
	for _, n := range strange {
		wantNoService(t, "count", []byte(longs(n, 0)))
		wantNoService(t, "number of sessions", []byte(longs(6, n)))
		wantNoService(t, "number of sessions", []byte(longs(6, n)+longs(2, 6, 5, 0)))
		wantNoService(t, "client", []byte(longs(6, 1)+longs(n, 6, 5, 0)))
		wantNoService(t, "seq", []byte(longs(6, 1)+longs(2, n, 5, 0)))
		wantNoService(t, "index", []byte(longs(6, 1)+longs(2, 6, n, 0)))
		wantNoService(t, "length", []byte(longs(6, 1)+longs(2, 6, 5, n)))
		wantNoService(t, "length", []byte(longs(6, 1)+longs(2, 6, 5, n)+"d"))
	}
	one := func(count, client, seq, index, size int) []byte {
		return []byte(longs(count, 1) + longs(client, seq, index, size) + strings.Repeat("d", size))
	}
	for _, b := range [][]byte{one(1, 1, 1, 0, 0), one(1000000, 50, 1000000000, 999999, 64)} {
		if _, code := impl.DecodeState(b); code != impl.OK {
			t.Errorf("% x: code %d", b, code)
		}
	}
	for _, b := range [][]byte{one(0, 1, 1, 0, 0), one(1000001, 1, 1, 0, 0), one(1, 0, 1, 0, 0), one(1, 51, 1, 0, 0), one(1, 1, 0, 0, 0), one(1, 1, 1000000001, 0, 0),
		one(1, 1, 1, 1, 0), one(1000000, 1, 1, 1000000, 0), one(1, 1, 1, 0, 65)} {
		wantNoService(t, "beyond a bound", b)
	}
	wantNoService(t, "a session more than told", []byte(longs(6, 1)+longs(2, 6, 5, 0)+longs(3, 6, 5, 0)))
	wantNoService(t, "a session fewer than told", []byte(longs(6, 3)+longs(2, 6, 5, 0)+longs(3, 6, 5, 0)))
	wantNoService(t, "equal clients", []byte(longs(6, 2)+longs(2, 6, 5, 0)+longs(2, 7, 4, 0)))
	wantNoService(t, "falling clients", []byte(longs(6, 2)+longs(3, 6, 5, 0)+longs(2, 7, 4, 0)))
}

// A valid service may have a Count above MaxIndex, as Base and the kept items are bounded one by one: chapter 6's words, taken plainly.
func TestCountAboveMaxIndex(t *testing.T) {
	s := impl.Service{Base: impl.MaxIndex, Kept: []impl.Item{item(1, 1, "a")}, Sessions: []impl.Session{session(1, 1, impl.MaxIndex, "a")}}
	wantApply(t, "again", s, itemBytes(1, 1, "a"))
	if _, place, code := impl.Apply(s, itemBytes(1, 2, "b")); place != impl.MaxIndex+1 || code != impl.OK {
		t.Errorf("place %d, code %d", place, code)
	}
	wantNoService(t, "no service has such a Base", wantState(t, "above", s))
}

func randomService(r *rand.Rand) impl.Service {
	s := impl.Service{Base: r.IntN(5)}
	for range r.IntN(4) {
		s.Kept = append(s.Kept, item(1+r.IntN(50), 1+r.IntN(9), string(randomBytes(r, r.IntN(4)))))
	}
	client, count := 0, s.Base+len(s.Kept)
	for client < 40 && count > 0 && r.IntN(4) > 0 {
		client += 1 + r.IntN(10)
		s.Sessions = append(s.Sessions, session(client, 1+r.IntN(300), r.IntN(count), string(randomBytes(r, r.IntN(4)))))
	}
	return s
}

// Promise 9: what is laid down is given back; bytes that are taken are those that would be laid down.
func TestStateBackAndForth(t *testing.T) {
	r := rand.New(rand.NewPCG(63, 64))
	taken := 0
	for range 20000 {
		s := randomService(r)
		b := wantState(t, "random", s)
		wantService(t, "random", b, impl.Service{Base: s.Base + len(s.Kept), Sessions: s.Sessions})
		for range 4 {
			other := slices.Clone(b)
			other[r.IntN(len(other))] ^= byte(1 << r.IntN(8))
			if r.IntN(4) == 0 {
				other = slices.Delete(other, r.IntN(len(other)), len(other))
			}
			was := string(other)
			s, code := impl.DecodeState(other)
			if string(other) != was {
				t.Fatal("the bytes were changed")
			}
			if code != impl.OK {
				wantNoService(t, "changed", other)
				continue
			}
			taken++
			if !modelValid(s) || len(s.Kept) != 0 || modelState(s) != was {
				t.Fatalf("% x is taken as %s", other, tellService(s))
			}
		}
	}
	if taken < 1000 {
		t.Errorf("only %d changed states were taken", taken)
	}
}
