package tests

import (
	"encoding/binary"
	"fmt"
	"strings"

	"loop.example/s01723/impl"
)

// The model of chapter 6, word by word: every rule asks of each index or client, one by one.

func shorts(numbers ...uint32) string {
	var b []byte
	for _, n := range numbers {
		b = binary.LittleEndian.AppendUint32(b, n)
	}
	return string(b)
}

func longs(numbers ...int) string {
	var b []byte
	for _, n := range numbers {
		b = binary.LittleEndian.AppendUint64(b, uint64(n))
	}
	return string(b)
}

func itemBytes(client, seq int, data string) []byte {
	return []byte(shorts(uint32(client), uint32(seq)) + data)
}

func session(client, seq, index int, data string) impl.Session {
	return impl.Session{Client: client, Seq: seq, Index: index, Data: []byte(data)}
}

func item(client, seq int, data string) impl.Item {
	return impl.Item{Client: client, Seq: seq, Data: []byte(data)}
}

// tellService writes nil and empty lists alike.
func tellService(s impl.Service) string {
	var out strings.Builder
	fmt.Fprintf(&out, "base %d", s.Base)
	for _, x := range s.Kept {
		fmt.Fprintf(&out, " kept %d %d %x", x.Client, x.Seq, x.Data)
	}
	for _, x := range s.Sessions {
		fmt.Fprintf(&out, " session %d %d %d %x", x.Client, x.Seq, x.Index, x.Data)
	}
	return out.String()
}

func modelItem(client, seq int, data []byte) bool {
	return 0 < client && client < 51 && 0 < seq && seq < 1000000001 && len(data) < 65
}

func modelValid(s impl.Service) bool {
	good := 0 <= s.Base && s.Base < 1000001 && len(s.Kept) < 1000001
	for _, x := range s.Kept {
		good = good && modelItem(x.Client, x.Seq, x.Data)
	}
	for k, x := range s.Sessions {
		good = good && modelItem(x.Client, x.Seq, x.Data) && 0 <= x.Index && x.Index < s.Base+len(s.Kept)
		good = good && (k == 0 || s.Sessions[k-1].Client < x.Client)
	}
	return good
}

func modelState(s impl.Service) string {
	out := longs(s.Base+len(s.Kept), len(s.Sessions))
	for _, x := range s.Sessions {
		out += longs(x.Client, x.Seq, x.Index, len(x.Data)) + string(x.Data)
	}
	return out
}

// modelApply goes through all clients there may be.
func modelApply(s impl.Service, data []byte) (impl.Service, int, int) {
	if !modelValid(s) {
		return impl.Service{}, 0, impl.ErrRange
	}
	if len(data) == 0 {
		return s, 0, impl.OK
	}
	if len(data) < 8 {
		return s, 0, impl.ErrRange
	}
	client, seq, rest := int(binary.LittleEndian.Uint32(data)), int(binary.LittleEndian.Uint32(data[4:])), data[8:]
	if !modelItem(client, seq, rest) {
		return s, 0, impl.ErrRange
	}
	count := s.Base + len(s.Kept)
	next := impl.Service{Base: s.Base, Kept: append(s.Kept[:len(s.Kept):len(s.Kept)], impl.Item{Client: client, Seq: seq, Data: rest})}
	for c := 1; c <= impl.MaxClients; c++ {
		last := impl.Session{}
		for _, x := range s.Sessions {
			if x.Client == c {
				last = x
			}
		}
		if c == client && seq < last.Seq {
			return s, 0, impl.ErrExist
		}
		if c == client && seq == last.Seq && string(rest) == string(last.Data) {
			return s, last.Index, impl.OK
		}
		if c == client && seq == last.Seq {
			return s, 0, impl.ErrExist
		}
		if c == client {
			last = impl.Session{Client: c, Seq: seq, Index: count, Data: rest}
		}
		if last.Client != 0 {
			next.Sessions = append(next.Sessions, last)
		}
	}
	if count == impl.MaxIndex {
		return s, 0, impl.ErrFull
	}
	return next, count, impl.OK
}

func modelCommit(match, terms []int, base, term, commit int) int {
	if len(match) > 7 || len(terms) > 1000000 || base < 0 || base > 1000000 {
		return commit
	}
	out := commit
	for k, t := range terms {
		i, have := base+1+k, 0
		for _, m := range match {
			if m >= i {
				have++
			}
		}
		if i > commit && t == term && 2*have > len(match) {
			out = i
		}
	}
	return out
}

func modelMerge(base int, terms []int, prev int, news []int) (int, int) {
	if base < 0 || base > 1000000 || prev < 0 || prev > 1000000 {
		return 0, 0
	}
	own := map[int]int{}
	for k, t := range terms {
		own[base+1+k] = t
	}
	passed := 0
	for passed < len(news) {
		index := prev + 1 + passed
		t, has := own[index]
		if index > base && has && t != news[passed] {
			return index, passed
		}
		if index > base && !has {
			break
		}
		passed++
	}
	return 0, passed
}
