package tests

import (
	"bytes"
	"math"
	"math/rand/v2"
	"slices"
	"strings"
	"testing"

	"loop.example/s01723/impl"
)

// Promise 9: the bytes of items, at and beyond their bounds.
func TestItemBytes(t *testing.T) {
	for _, client := range []int{math.MinInt, -1, 0, 1, 2, 49, 50, 51, 256 + 1, 1<<32 + 1, math.MaxInt} {
		for _, seq := range []int{math.MinInt, -1, 0, 1, 2, 258, 999999999, 1000000000, 1000000001, 1<<32 + 1, math.MaxInt} {
			for _, size := range []int{0, 1, 63, 64, 65, 300} {
				x := item(client, seq, strings.Repeat("d", size))
				b, code := impl.EncodeItem(x)
				if !modelItem(client, seq, x.Data) {
					if code != impl.ErrRange || len(b) != 0 {
						t.Errorf("%d %d, %d bytes: % x, code %d", client, seq, size, b, code)
					}
					continue
				}
				if code != impl.OK || !bytes.Equal(b, itemBytes(client, seq, string(x.Data))) {
					t.Errorf("%d %d, %d bytes: % x, code %d", client, seq, size, b, code)
				}
				wantItem(t, b, x)
			}
		}
	}
}

func wantItem(t *testing.T, b []byte, want impl.Item) {
	t.Helper()
	x, code := impl.DecodeItem(b)
	if code != impl.OK || x.Client != want.Client || x.Seq != want.Seq || !bytes.Equal(x.Data, want.Data) {
		t.Errorf("% x: %v, code %d, want %v", b, x, code, want)
	}
}

func wantNoItem(t *testing.T, b []byte) {
	t.Helper()
	if x, code := impl.DecodeItem(b); code != impl.ErrRange || x.Client != 0 || x.Seq != 0 || len(x.Data) != 0 {
		t.Errorf("% x: %v, code %d", b, x, code)
	}
}

// Promise 9: no other bytes are items.
func TestItemRead(t *testing.T) {
	whole := itemBytes(1, 1, "")
	for n := range whole {
		wantNoItem(t, whole[:n])
	}
	wantItem(t, whole, item(1, 1, ""))
	for _, client := range []uint32{0, 1, 50, 51, 1 << 8, 1<<8 + 1, 1<<16 + 1, 1<<24 + 1, 1 << 31, 1<<31 + 1, math.MaxUint32} {
		for _, seq := range []uint32{0, 1, 1000000000, 1000000001, 1 << 31, 1<<31 + 1, math.MaxUint32} {
			for _, size := range []int{0, 1, 64, 65} {
				data := strings.Repeat("x", size)
				b := []byte(shorts(client, seq) + data)
				if modelItem(int(client), int(seq), b[8:]) {
					wantItem(t, b, item(int(client), int(seq), data))
				} else {
					wantNoItem(t, b)
				}
			}
		}
	}
}

func plainService() impl.Service {
	return impl.Service{Base: 3, Kept: []impl.Item{item(2, 5, "a"), item(7, 1, "b"), item(2, 6, "")},
		Sessions: []impl.Session{session(2, 6, 5, ""), session(7, 1, 4, "b"), session(9, 1000000000, 0, "old")}}
}

// wrongServices are such that aren't valid in one way each.
func wrongServices() map[string]impl.Service {
	out := map[string]impl.Service{
		"base below 0":         {Base: -1},
		"base of the least":    {Base: math.MinInt},
		"base beyond":          {Base: impl.MaxIndex + 1},
		"base of the greatest": {Base: math.MaxInt, Kept: []impl.Item{item(1, 1, "")}},
		"too many kept":        {Kept: slices.Repeat([]impl.Item{item(1, 1, "")}, impl.MaxIndex+1)},
		"session of nothing":   {Sessions: []impl.Session{session(1, 1, 0, "")}},
	}
	spoilt := func(what string, spoil func(s *impl.Service)) {
		s := plainService()
		spoil(&s)
		out[what] = s
	}
	for what, x := range map[string]impl.Item{"client 0": item(0, 1, ""), "client below 0": item(-1, 1, ""), "client beyond": item(51, 1, ""), "client of the greatest": item(math.MaxInt, 1, ""),
		"seq 0": item(8, 0, ""), "seq below 0": item(8, -1, ""), "seq beyond": item(8, 1000000001, ""), "data too long": item(8, 1, strings.Repeat("x", 65))} {
		spoilt("first kept: "+what, func(s *impl.Service) { s.Kept[0] = x })
		spoilt("last kept: "+what, func(s *impl.Service) { s.Kept[2] = x })
		spoilt("session: "+what, func(s *impl.Service) {
			s.Sessions = []impl.Session{{Client: x.Client, Seq: x.Seq, Data: x.Data}}
		})
		spoilt("last session: "+what, func(s *impl.Service) {
			s.Sessions[1] = impl.Session{Client: x.Client, Seq: x.Seq, Data: x.Data}
			s.Sessions = s.Sessions[:2]
		})
	}
	spoilt("equal clients", func(s *impl.Service) { s.Sessions[1].Client = 2 })
	spoilt("equal clients at the end", func(s *impl.Service) { s.Sessions[2].Client = 7 })
	spoilt("falling clients", func(s *impl.Service) { s.Sessions[0], s.Sessions[1] = s.Sessions[1], s.Sessions[0] })
	spoilt("index below 0", func(s *impl.Service) { s.Sessions[0].Index = -1 })
	spoilt("index of the least", func(s *impl.Service) { s.Sessions[2].Index = math.MinInt })
	spoilt("index at count", func(s *impl.Service) { s.Sessions[1].Index = 6 })
	spoilt("index of the greatest", func(s *impl.Service) { s.Sessions[2].Index = math.MaxInt })
	return out
}

// validServices are at the edges of what is valid.
func validServices() map[string]impl.Service {
	long := strings.Repeat("x", 64)
	return map[string]impl.Service{
		"empty":          {},
		"plain":          plainService(),
		"all let go":     {Base: 6, Sessions: plainService().Sessions},
		"base at most":   {Base: impl.MaxIndex, Sessions: []impl.Session{session(1, 1, impl.MaxIndex-1, ""), session(50, 1000000000, 0, long)}},
		"one below":      {Base: impl.MaxIndex - 1},
		"kept at bounds": {Kept: []impl.Item{item(1, 1, long), item(50, 1000000000, long)}, Sessions: []impl.Session{session(1, 1, 1, long), session(50, 1000000000, 1, "")}},
		"many kept":      {Kept: slices.Repeat([]impl.Item{item(1, 1, "")}, impl.MaxIndex)},
		"kept up to it":  {Base: impl.MaxIndex - 2, Kept: []impl.Item{item(1, 1, ""), item(1, 2, "")}},
	}
}

func wantApply(t *testing.T, what string, s impl.Service, data []byte) impl.Service {
	t.Helper()
	was, wasData := tellService(s), string(data)
	next, place, code := impl.Apply(s, data)
	want, wantPlace, wantCode := modelApply(s, data)
	if place != wantPlace || code != wantCode || tellService(next) != tellService(want) {
		t.Errorf("%s, % x: place %d, code %d, %.300s; want %d, %d, %.300s", what, data, place, code, tellService(next), wantPlace, wantCode, tellService(want))
	}
	if tellService(s) != was || string(data) != wasData {
		t.Fatalf("%s, % x: an argument was changed", what, data)
	}
	return next
}

// applied are entries for the plain service: empty, no items, and each kind of seq with the same and with other data.
func applied() [][]byte {
	return [][]byte{nil, {}, {0}, []byte("seven.."), []byte("nothing at all"), itemBytes(0, 1, ""), itemBytes(51, 1, ""), itemBytes(1, 0, ""), itemBytes(1, 1000000001, ""),
		itemBytes(1, 1, strings.Repeat("x", 65)), itemBytes(2, 6, strings.Repeat("x", 65)),
		itemBytes(2, 6, ""), itemBytes(2, 6, "x"), itemBytes(2, 5, "a"), itemBytes(2, 5, ""), itemBytes(2, 1, ""), itemBytes(2, 7, ""), itemBytes(2, 7, "y"), itemBytes(2, 1000000000, "z"),
		itemBytes(7, 1, "b"), itemBytes(7, 1, "B"), itemBytes(7, 1, "bb"), itemBytes(7, 1, ""), itemBytes(7, 2, "b"),
		itemBytes(9, 1000000000, "old"), itemBytes(9, 1000000000, "new"), itemBytes(9, 999999999, "old"),
		itemBytes(1, 1, "front"), itemBytes(3, 1, "between"), itemBytes(8, 9, "between"), itemBytes(50, 1, "behind"), itemBytes(1, 1, strings.Repeat("x", 64))}
}

// Promise 10: each kind of entry on services at the edges of what is valid, and on such as aren't.
func TestApplyEdges(t *testing.T) {
	for what, s := range validServices() {
		entries := applied()
		if len(s.Kept) > 1000 {
			entries = [][]byte{nil, {1}, itemBytes(1, 1, ""), itemBytes(2, 1, "")}
		}
		for _, data := range entries {
			if next := wantApply(t, what, s, data); !modelValid(next) {
				t.Errorf("%s, % x: the answer isn't valid", what, data)
			}
		}
	}
	for what, s := range wrongServices() {
		for _, data := range [][]byte{nil, {1}, itemBytes(1, 1, "x"), itemBytes(50, 9, "")} {
			next, place, code := impl.Apply(s, data)
			if code != impl.ErrRange || place != 0 || tellService(next) != tellService(impl.Service{}) {
				t.Errorf("%s, % x: place %d, code %d, %.300s", what, data, place, code, tellService(next))
			}
		}
	}
}

// Promise 10: the codes and places as chapter 6 tells them, without the model.
func TestApplyPlaces(t *testing.T) {
	for _, c := range []struct {
		data        []byte
		place, code int
		sessions    string
	}{
		{itemBytes(2, 5, "a"), 0, impl.ErrExist, "same"},
		{itemBytes(2, 6, ""), 5, impl.OK, "same"},
		{itemBytes(2, 6, "x"), 0, impl.ErrExist, "same"},
		{itemBytes(7, 1, "b"), 4, impl.OK, "same"},
		{itemBytes(9, 1000000000, "old"), 0, impl.OK, "same"},
		{itemBytes(2, 7, "x"), 6, impl.OK, "base 3 kept 2 5 61 kept 7 1 62 kept 2 6  kept 2 7 78 session 2 7 6 78 session 7 1 4 62 session 9 1000000000 0 6f6c64"},
		{itemBytes(8, 4, "y"), 6, impl.OK, "base 3 kept 2 5 61 kept 7 1 62 kept 2 6  kept 8 4 79 session 2 6 5  session 7 1 4 62 session 8 4 6 79 session 9 1000000000 0 6f6c64"},
	} {
		s := plainService()
		if c.sessions == "same" {
			c.sessions = tellService(s)
		}
		if next, place, code := impl.Apply(s, c.data); place != c.place || code != c.code || tellService(next) != c.sessions {
			t.Errorf("% x: place %d, code %d, %s", c.data, place, code, tellService(next))
		}
	}
	full := impl.Service{Base: impl.MaxIndex, Sessions: []impl.Session{session(3, 4, 77, "x")}}
	for _, c := range []struct {
		data        []byte
		place, code int
	}{
		{itemBytes(3, 4, "x"), 77, impl.OK}, {itemBytes(3, 4, "y"), 0, impl.ErrExist}, {itemBytes(3, 3, "x"), 0, impl.ErrExist},
		{itemBytes(3, 5, "x"), 0, impl.ErrFull}, {itemBytes(4, 1, "x"), 0, impl.ErrFull}, {[]byte("x"), 0, impl.ErrRange}, {nil, 0, impl.OK},
	} {
		if next, place, code := impl.Apply(full, c.data); place != c.place || code != c.code || tellService(next) != tellService(full) {
			t.Errorf("full, % x: place %d, code %d, %s", c.data, place, code, tellService(next))
		}
	}
}

// Promise 10: in long runs each client's seq has at most one place, and a place once given stays.
func TestApplyRuns(t *testing.T) {
	r := rand.New(rand.NewPCG(61, 62))
	for range 40 {
		var s impl.Service
		given := map[[2]int]int{}
		holders := map[int][2]int{}
		for range 400 {
			client, seq := 1+r.IntN(6)*r.IntN(10), 1+r.IntN(60)
			data := itemBytes(client, seq, string(randomBytes(r, r.IntN(2))))
			if r.IntN(20) == 0 {
				data = randomBytes(r, r.IntN(12))
			}
			before := s.Base + len(s.Kept)
			s = wantApply(t, "run", s, data)
			again, place, code := impl.Apply(s, data)
			if code != impl.OK || len(data) == 0 {
				continue
			}
			if tellService(again) != tellService(s) {
				t.Fatal("applied once more it changes the service")
			}
			pair := [2]int{client, seq}
			if at, known := given[pair]; known && at != place {
				t.Fatalf("%v has the places %d and %d", pair, at, place)
			}
			if holder, held := holders[place]; held && holder != pair {
				t.Fatalf("place %d is that of %v and of %v", place, holder, pair)
			}
			if _, known := given[pair]; !known && place != before {
				t.Fatalf("%v: the new place is %d, want %d", pair, place, before)
			}
			given[pair], holders[place] = place, pair
			if r.IntN(50) == 0 {
				s = impl.Service{Base: s.Base + len(s.Kept), Sessions: s.Sessions}
			}
		}
		for k, x := range s.Kept {
			if given[[2]int{x.Client, x.Seq}] != s.Base+k {
				t.Fatalf("the item at %d has moved", s.Base+k)
			}
		}
	}
}

// Rule 3 of chapter 1 for items, services and states.
func TestServiceMemory(t *testing.T) {
	for _, data := range applied() {
		s := plainService()
		next, _, _ := impl.Apply(s, data)
		state, _ := impl.EncodeState(s)
		back, _ := impl.DecodeState(state)
		x, _ := impl.DecodeItem(data)
		laid, _ := impl.EncodeItem(x)
		lists := [][]byte{data, state, x.Data, laid}
		for _, s := range []impl.Service{s, next, back} {
			for _, x := range s.Kept {
				lists = append(lists, x.Data)
			}
			for _, x := range s.Sessions {
				lists = append(lists, x.Data)
			}
		}
		wantApart(t, lists)
		clear(next.Kept[:cap(next.Kept)])
		clear(next.Sessions[:cap(next.Sessions)])
		if s.Kept[0].Client != 2 || s.Sessions[2].Client != 9 {
			t.Fatalf("% x: the answer shares a list with the argument", data)
		}
	}
}

// Room behind the lists of an argument is the caller's.
func TestApplyLeavesRoom(t *testing.T) {
	kept, sessions := make([]impl.Item, 1, 4), make([]impl.Session, 1, 4)
	kept[0], sessions[0] = item(2, 5, "a"), session(2, 5, 0, "a")
	for _, data := range applied() {
		impl.Apply(impl.Service{Kept: kept, Sessions: sessions}, data)
		if kept[:2][1].Client != 0 || sessions[:2][1].Client != 0 || sessions[0].Seq != 5 {
			t.Fatalf("% x: written behind or into a list that was handed in", data)
		}
	}
}
