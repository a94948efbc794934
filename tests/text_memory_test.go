package tests

import (
	"math/rand/v2"
	"reflect"
	"runtime"
	"slices"
	"strings"
	gosync "sync"
	"testing"

	"loop.example/s01723/impl"
)

// Rule 3 of chapter 1: the text stays as it was, and what was read shares memory neither with it nor within.
func TestParseMemory(t *testing.T) {
	text := []byte(strings.Repeat("append 1 2 3 616263\nrestart 1 6162\nrestart 2 -\nappend 1 2 3 616263\nbeat 1\n", 20))
	before := slices.Clone(text)
	p := impl.ParseScript(text)
	told := tellParsed(p)
	if len(p.Events) != 100 || !slices.Equal(text, before) {
		t.Fatalf("%d events; the text is changed: %v", len(p.Events), !slices.Equal(text, before))
	}
	wantNoOverlap(t, append(spans(reflect.ValueOf(p), "parsed"), spans(reflect.ValueOf(text), "text")...))
	clear(text)
	if tellParsed(p) != told {
		t.Error("what was read changes with the text")
	}
	// What is behind the length of a text is none of it.
	room := append(make([]byte, 0, 100), "beat 1\nbeat 2\n"...)
	if got := impl.ParseScript(room[:6]); len(got.Events) != 1 || string(room) != "beat 1\nbeat 2\n" {
		t.Errorf("%d events, %q", len(got.Events), room)
	}
}

func TestTellMemory(t *testing.T) {
	r := rand.New(rand.NewPCG(17, 5))
	for range 200 {
		report := anyReport(r)
		before := modelTell(report)
		got := impl.TellReport(report)
		wantNoOverlap(t, append(spans(reflect.ValueOf(report), "report"), spans(reflect.ValueOf(got), "text")...))
		again := impl.TellReport(report)
		wantNoOverlap(t, append(spans(reflect.ValueOf(again), "again"), spans(reflect.ValueOf(got), "text")...))
		clear(got[:cap(got)])
		if modelTell(report) != before || string(again) != before {
			t.Fatal("the report or another text changes with the text")
		}
	}
}

func TestRunTextMemory(t *testing.T) {
	for _, script := range []string{"", "beat", "nodes 0", "nodes 1\ntimeout 1\nappend 1 1 1 6162\nread 1 0\nrestart 1 ff\ndump 1"} {
		text := []byte(script)
		got := impl.RunText(text)
		told := string(got)
		if string(text) != script {
			t.Fatalf("%q has become %q", script, text)
		}
		again := impl.RunText(text)
		wantNoOverlap(t, slices.Concat(spans(reflect.ValueOf(text), "script"), spans(reflect.ValueOf(got), "text"), spans(reflect.ValueOf(again), "again")))
		clear(got[:cap(got)])
		wantText(t, script, impl.RunText(text), told)
		wantText(t, script, again, told)
	}
}

// Ways: the sender of lines has ended when the call answers, also where the first line is faulty; and calls beside one another don't mix.
func TestTextGoroutines(t *testing.T) {
	many := strings.Repeat("beat 1\n", 9000)
	before := runtime.NumGoroutine()
	for range 20 {
		for _, text := range []string{"", "beat", "x\n" + many, many, many + "x", many + many, "nodes 9\n" + many} {
			impl.ParseScript([]byte(text))
			impl.RunText([]byte(text))
		}
	}
	wantGoroutines(t, before)
	var all gosync.WaitGroup
	for k := range 8 {
		all.Go(func() {
			text := strings.Repeat("timeout 1\ndeliver 1\ndeliver 1\n", 20*(k+1)) + strings.Repeat("beat", k%2)
			for range 5 {
				wantText(t, "beside others", impl.RunText([]byte(text)), modelRunText(text))
			}
		})
	}
	all.Wait()
}

// Promise 17: the longest answers are told whole.
func TestRunTextGreat(t *testing.T) {
	var script strings.Builder
	script.WriteString("nodes 1\ntimeout 1\n")
	for k := range 200 {
		line, _ := lineOf(evAppend(1, 1, k+1, strings.Repeat("v", impl.MaxValue)))
		script.WriteString(line + "\n")
	}
	script.WriteString(strings.Repeat("dump 1\n", 300))
	text := script.String()
	wantRunText(t, text, modelRunText(text))
}
