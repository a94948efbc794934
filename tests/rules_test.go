package tests

import (
	"math"
	"math/rand/v2"
	"slices"
	"testing"

	"loop.example/s01723/impl"
)

// Promise 10: which log may lead.
func TestUpToDateAll(t *testing.T) {
	numbers := []int{math.MinInt, -1, 0, 1, 2, 9, impl.MaxTerm, math.MaxInt}
	for _, lastTerm := range numbers {
		for _, lastIndex := range numbers {
			for _, term := range numbers {
				for _, index := range numbers {
					want := term >= lastTerm
					if term == lastTerm {
						want = index >= lastIndex
					}
					if impl.UpToDate(lastTerm, lastIndex, term, index) != want {
						t.Errorf("%d %d %d %d: want %v", lastTerm, lastIndex, term, index, want)
					}
				}
			}
		}
	}
}

func wantCommit(t *testing.T, match, terms []int, base, term, commit int) {
	t.Helper()
	want := modelCommit(match, terms, base, term, commit)
	if got := impl.CommitPoint(match, terms, base, term, commit); got != want {
		t.Errorf("match %v, %d terms, base %d, term %d, commit %d: %d, want %d", match, len(terms), base, term, commit, got, want)
	}
}

// lists are all those of up to size numbers from 0 to most.
func lists(size, most int) [][]int {
	out := [][]int{nil}
	for from := 0; size > 0; size-- {
		to := len(out)
		for _, list := range out[from:to] {
			for n := 0; n <= most; n++ {
				out = append(out, append(slices.Clone(list), n))
			}
		}
		from = to
	}
	return out
}

// Promise 10: all small logs and matches.
func TestCommitSmall(t *testing.T) {
	logs := lists(3, 2)
	for _, match := range lists(4, 4) {
		for _, terms := range logs {
			for base := -1; base <= 2; base++ {
				for commit := -1; commit <= 4; commit++ {
					wantCommit(t, match, terms, base, 1, commit)
				}
			}
		}
	}
}

// Promise 10: a leader's commit point by hand.
func TestCommitByHand(t *testing.T) {
	for _, c := range []struct {
		match, terms       []int
		base, term, commit int
		want               int
	}{
		{[]int{5, 4, 3, 2, 1}, []int{1, 1, 1, 1, 1}, 0, 1, 0, 3},
		{[]int{1, 2, 3, 4, 5}, []int{1, 1, 1, 1, 1}, 0, 1, 2, 3},
		{[]int{6, 6, 1, 1, 1, 6, 6}, []int{1, 1, 1, 2, 2, 2}, 0, 2, 1, 6},
		{[]int{6, 6, 1, 1, 1, 1, 6}, []int{1, 1, 1, 2, 2, 2}, 0, 2, 1, 1},
		{[]int{6, 1, 6, 1, 6, 6}, []int{1, 1, 1, 2, 2, 2}, 0, 2, 1, 6},
		{[]int{6, 1, 6, 1, 6, 5}, []int{1, 1, 1, 2, 2, 2}, 0, 2, 1, 5},
		{[]int{6, 1, 6, 1, 1, 6}, []int{1, 1, 1, 2, 2, 2}, 0, 2, 1, 1},
		{[]int{9, 9, 9}, []int{1, 2, 1, 2, 1}, 4, 1, 4, 9},
		{[]int{9, 8, 9}, []int{1, 2, 1, 2, 1}, 4, 2, 0, 8},
		{[]int{9, 9, 9}, []int{1, 2, 1, 2, 1}, 4, 3, 0, 0},
		{[]int{9, 9, 9}, []int{1, 2, 1, 2, 1}, 4, 2, 8, 8},
		{[]int{9, 9, 9}, []int{1, 2, 1, 2, 1}, 4, 2, 100, 100},
		{[]int{9, 9, 9}, []int{1, 2, 1, 2, 1}, 4, 2, -100, 8},
		{[]int{4, 4, 9}, []int{1, 1, 1}, 4, 1, 2, 2},
		{[]int{4, 4, 9}, nil, 4, 0, 2, 2},
		{nil, nil, 0, 0, 0, 0},
		{[]int{0}, []int{1}, 0, 1, 0, 0},
		{[]int{1}, []int{1}, 0, 1, 0, 1},
	} {
		if got := impl.CommitPoint(c.match, c.terms, c.base, c.term, c.commit); got != c.want {
			t.Errorf("%v: %d", c, got)
		}
	}
}

// Promise 10: arguments at and outside of their bounds.
func TestCommitBounds(t *testing.T) {
	edges := []int{math.MinInt, -1, 0, 1, 2, 999999, 1000000, 1000001, 1000002, math.MaxInt}
	for _, base := range edges {
		for _, commit := range edges {
			for _, match := range [][]int{nil, {math.MinInt}, {math.MaxInt}, {math.MaxInt, math.MinInt, 1000001}, {math.MaxInt, math.MaxInt, math.MinInt}, {-1, 1, 2, 3}, edges[3:], edges[2:], edges} {
				wantCommit(t, match, []int{1, 1}, base, 1, commit)
				wantCommit(t, match, nil, base, 1, commit)
			}
		}
	}
	for nodes := range 10 {
		match := slices.Repeat([]int{2}, nodes)
		want := 0
		if nodes >= 1 && nodes <= 7 {
			want = 2
		}
		if got := impl.CommitPoint(match, []int{1, 1}, 0, 1, 0); got != want {
			t.Errorf("%d nodes: %d", nodes, got)
		}
	}
	most := slices.Repeat([]int{1}, impl.MaxIndex)
	for _, base := range []int{0, 1, impl.MaxIndex} {
		if got := impl.CommitPoint([]int{math.MaxInt}, most, base, 1, 0); got != base+impl.MaxIndex {
			t.Errorf("as many terms as there may be, base %d: %d", base, got)
		}
	}
	if got := impl.CommitPoint([]int{math.MaxInt}, append(most, 1), 0, 1, 5); got != 5 {
		t.Errorf("a term too many: %d", got)
	}
	if got := impl.CommitPoint([]int{math.MaxInt}, most, 0, 2, -3); got != -3 {
		t.Errorf("no such term: %d", got)
	}
	for _, term := range []int{math.MinInt, -1, 0, math.MaxInt} {
		if got := impl.CommitPoint([]int{3}, []int{7, term, 7}, 0, term, 0); got != 2 {
			t.Errorf("term %d: %d", term, got)
		}
	}
}

func wantMerge(t *testing.T, base int, terms []int, prev int, news []int) {
	t.Helper()
	wantCut, wantPass := modelMerge(base, terms, prev, news)
	if cut, pass := impl.MergePoint(base, terms, prev, news); cut != wantCut || pass != wantPass {
		t.Errorf("base %d, terms %v, prev %d, news %v: %d %d, want %d %d", base, terms, prev, news, cut, pass, wantCut, wantPass)
	}
}

// Promise 10: all small logs and news.
func TestMergeSmall(t *testing.T) {
	logs := lists(4, 1)
	for base := -1; base <= 4; base++ {
		for prev := -1; prev <= 6; prev++ {
			for _, terms := range logs {
				for _, news := range logs {
					wantMerge(t, base, terms, prev, news)
				}
			}
		}
	}
}

// Promise 10: merging by hand.
func TestMergeByHand(t *testing.T) {
	for _, c := range []struct {
		what      string
		base      int
		terms     []int
		prev      int
		news      []int
		cut, pass int
	}{
		{"all in the snapshot", 5, []int{2, 2}, 1, []int{9, 9, 9}, 0, 3},
		{"up to the snapshot", 5, []int{2, 2}, 2, []int{9, 9, 9}, 0, 3},
		{"snapshot, then agreeing", 5, []int{2, 3}, 4, []int{9, 2, 3}, 0, 3},
		{"snapshot, then differing", 5, []int{2, 3}, 4, []int{9, 3, 3}, 6, 1},
		{"snapshot, agreeing, differing", 5, []int{2, 3}, 4, []int{9, 2, 2}, 7, 2},
		{"snapshot, agreeing, behind the end", 5, []int{2, 3}, 4, []int{9, 2, 3, 3, 4}, 0, 3},
		{"differing at the first", 0, []int{1, 2, 3}, 0, []int{2, 2, 3}, 1, 0},
		{"differing in the midst", 0, []int{1, 2, 3}, 0, []int{1, 3, 3}, 2, 1},
		{"differing at the last", 0, []int{1, 2, 3}, 0, []int{1, 2, 4}, 3, 2},
		{"agreeing, fewer", 0, []int{1, 2, 3}, 0, []int{1, 2}, 0, 2},
		{"agreeing, all", 0, []int{1, 2, 3}, 0, []int{1, 2, 3}, 0, 3},
		{"agreeing, more", 0, []int{1, 2, 3}, 1, []int{2, 3, 3, 3}, 0, 2},
		{"all behind the end", 0, []int{1, 2, 3}, 3, []int{3, 3}, 0, 0},
		{"far behind the end", 0, []int{1, 2, 3}, 9, []int{3, 3}, 0, 0},
		{"a smaller term", 0, []int{3}, 0, []int{1}, 1, 0},
		{"no news", 0, []int{3}, 0, nil, 0, 0},
		{"no log", 7, nil, 3, []int{1, 1, 1, 1, 2, 2}, 0, 4},
	} {
		if cut, pass := impl.MergePoint(c.base, c.terms, c.prev, c.news); cut != c.cut || pass != c.pass {
			t.Errorf("%s: %d %d", c.what, cut, pass)
		}
	}
}

// Promise 10: arguments at and outside of their bounds.
func TestMergeBounds(t *testing.T) {
	edges := []int{math.MinInt, -1, 0, 1, 2, 999998, 999999, 1000000, 1000001, math.MaxInt}
	for _, base := range edges {
		for _, prev := range edges {
			for _, news := range lists(3, 1) {
				wantMerge(t, base, []int{0, 1}, prev, news)
				wantMerge(t, base, nil, prev, news)
			}
		}
	}
	most := slices.Repeat([]int{1}, impl.MaxIndex+2)
	if cut, pass := impl.MergePoint(impl.MaxIndex, most, 0, most); cut != 0 || pass != len(most) {
		t.Errorf("long lists: %d %d", cut, pass)
	}
	if cut, pass := impl.MergePoint(0, most, impl.MaxIndex, []int{1, math.MinInt}); cut != impl.MaxIndex+2 || pass != 1 {
		t.Errorf("a long log: %d %d", cut, pass)
	}
}

// Promise 10: logs of any kind; and no argument is changed.
func TestRulesAgainstModel(t *testing.T) {
	r := rand.New(rand.NewPCG(65, 66))
	numbers := func(n, most int) []int {
		out := make([]int, n)
		for i := range out {
			out[i] = r.IntN(most)
		}
		return out
	}
	for range 20000 {
		base, terms, match, news := r.IntN(10), numbers(r.IntN(20), 3), numbers(r.IntN(9), 30), numbers(r.IntN(20), 3)
		prev := r.IntN(25)
		if r.IntN(2) == 0 && prev >= base && prev < base+len(terms) {
			copy(news, terms[prev-base:])
		}
		wasTerms, wasMatch, wasNews := slices.Clone(terms), slices.Clone(match), slices.Clone(news)
		wantCommit(t, match, terms, base, r.IntN(3), r.IntN(25)-3)
		wantMerge(t, base, terms, prev, news)
		if !slices.Equal(terms, wasTerms) || !slices.Equal(match, wasMatch) || !slices.Equal(news, wasNews) {
			t.Fatal("an argument was changed")
		}
	}
}
