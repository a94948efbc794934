package tests

import (
	"math/rand/v2"
	"reflect"
	"runtime"
	"slices"
	gosync "sync"
	"testing"
	"time"

	"loop.example/s01723/impl"
)

// span is the memory of one list.
type span struct {
	from, to uintptr
	what     string
}

// spans gathers the memory of every list in v, to the end of what each could grow into.
func spans(v reflect.Value, what string) []span {
	var out []span
	switch v.Kind() {
	case reflect.Slice:
		if size := uintptr(v.Cap()) * v.Type().Elem().Size(); size > 0 {
			out = append(out, span{v.Pointer(), v.Pointer() + size, what})
		}
		if v.Type().Elem().Kind() == reflect.Uint8 {
			return out
		}
		for k := range v.Len() {
			out = append(out, spans(v.Index(k), what)...)
		}
	case reflect.Struct:
		for k := range v.NumField() {
			out = append(out, spans(v.Field(k), what+"."+v.Type().Field(k).Name)...)
		}
	}
	return out
}

func wantNoOverlap(t *testing.T, all []span) {
	t.Helper()
	slices.SortFunc(all, func(a, b span) int { return int(a.from) - int(b.from) })
	for k := 1; k < len(all); k++ {
		if all[k].from < all[k-1].to {
			t.Fatalf("%s and %s share memory", all[k-1].what, all[k].what)
		}
	}
}

func cloneEvents(events []impl.Event) []impl.Event {
	out := slices.Clone(events)
	for k := range out {
		out[k].Data = slices.Clone(out[k].Data)
	}
	return out
}

// Rule 3 of chapter 1: events stay as they were, and no list of the report shares memory with them or with another.
func TestClusterMemory(t *testing.T) {
	r := rand.New(rand.NewPCG(3, 3))
	for name, w := range weathers {
		for range 20 {
			p := randomPlay(t, r, w, someNodes(r), room, 400)
			for n := range p.nodes {
				p.do(evDump(n + 1))
				p.do(evDump(n + 1))
				p.do(evRead(n+1, 0))
				p.do(evRead(n+1, 0))
			}
			events := cloneEvents(p.events)
			report := impl.ClusterRun(p.nodes, p.room, events)
			if tellEvents(events) != tellEvents(p.events) {
				t.Fatalf("%s: an event was changed", name)
			}
			wantNoOverlap(t, append(spans(reflect.ValueOf(report), "report"), spans(reflect.ValueOf(events), "events")...))
		}
	}
}

// wantGoroutines asks that no more are left than there were. One that has done all may need a moment until it isn't counted any more.
func wantGoroutines(t *testing.T, before int) {
	t.Helper()
	for k := 0; runtime.NumGoroutine() > before; k++ {
		if k == 1000 {
			t.Fatalf("%d goroutines, %d before", runtime.NumGoroutine(), before)
		}
		time.Sleep(time.Millisecond)
	}
}

// Ways: all goroutines have ended when the call answers, also one that answers a code; and runs beside one another don't mix.
func TestClusterGoroutines(t *testing.T) {
	r := rand.New(rand.NewPCG(5, 5))
	p := randomPlay(t, r, weathers["stormy"], 5, room, 600)
	p.end()
	before := runtime.NumGoroutine()
	impl.ClusterRun(7, 0, nil)
	impl.ClusterRun(8, 0, nil)
	impl.ClusterRun(7, 0, make([]impl.Event, impl.MaxEvents+1))
	impl.ClusterRun(p.nodes, p.room, p.events)
	wantGoroutines(t, before)
	var all gosync.WaitGroup
	for range 8 {
		all.Go(func() {
			for k, o := range impl.ClusterRun(p.nodes, p.room, p.events).Obs {
				if tellObs(o) != p.told[k] {
					t.Errorf("event %d: %s", k, tellObs(o))
					return
				}
			}
		})
	}
	all.Wait()
}

// Promise 11: the longest scripts, of seven nodes with long logs, end.
func TestClusterGreat(t *testing.T) {
	p := newPlay(t, 7, room)
	p.elect(1)
	for k := 0; len(p.events) < impl.MaxEvents-30; k++ {
		p.do(evAppend(1, 1+k%50, k+1, "some twenty bytes .."))
		p.deliverAll()
		if k%40 == 39 {
			p.do(evSnap(1 + k/40%7))
		}
	}
	for len(p.events) < impl.MaxEvents {
		p.do(evRestart(1 + len(p.events)%7))
	}
	p.end()
}

// Promise 11: a log that is never compacted fills the directory; the node has failed then, and has lost nothing.
func TestClusterFillsDisk(t *testing.T) {
	events := []impl.Event{evTimeout(1)}
	value := string(make([]byte, impl.MaxValue))
	for k := range impl.MaxEvents - 6 {
		events = append(events, evAppend(1, 1, k+1, value))
	}
	events = append(events, evRestart(1), evTimeout(1), evRestart(1), evDump(1), evRead(1, 0))
	r := impl.ClusterRun(1, impl.MaxImage, events)
	full := slices.IndexFunc(r.Obs, func(o impl.Obs) bool { return o.Code != impl.OK })
	// There is one file beside 511 segments. Two items fill the first segment, which has the empty entry too, and three each other one.
	if want := 1 + 2 + 3*510; full != want || tellObs(r.Obs[full]) != "code 6, failed" {
		t.Fatalf("event %d: %s, want one at %d", full, tellObs(r.Obs[full]), want)
	}
	for _, o := range r.Obs[full+1 : len(events)-5] {
		if tellObs(o) != "code 9, failed" {
			t.Fatalf("a failed node: %s", tellObs(o))
		}
	}
	if v := r.Obs[len(events)-5].View; v.Role != impl.RoleFollower || v.Last != full {
		t.Errorf("restarted: %s", tellView(v))
	}
}
