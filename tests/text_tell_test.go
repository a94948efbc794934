package tests

import (
	"fmt"
	"math"
	"strings"
	"testing"

	"loop.example/s01723/impl"
)

const zeros = "0 0 0 0 0 0 0 0 0 0 0"

// Promise 17: the parts of an observation, one by one.
func TestTellParts(t *testing.T) {
	for what, c := range map[string]struct {
		obs  impl.Obs
		want string
	}{
		"nothing":  {impl.Obs{}, zeros},
		"code":     {impl.Obs{Code: 12}, "12 0 0 0 0 0 0 0 0 0 0"},
		"index":    {impl.Obs{Index: 7}, "0 7 0 0 0 0 0 0 0 0 0"},
		"role":     {impl.Obs{View: impl.View{Role: 4}}, "0 0 4 0 0 0 0 0 0 0 0"},
		"term":     {impl.Obs{View: impl.View{Term: 5}}, "0 0 0 5 0 0 0 0 0 0 0"},
		"vote":     {impl.Obs{View: impl.View{Vote: 6}}, "0 0 0 0 6 0 0 0 0 0 0"},
		"commit":   {impl.Obs{View: impl.View{Commit: 7}}, "0 0 0 0 0 7 0 0 0 0 0"},
		"last":     {impl.Obs{View: impl.View{Last: 8}}, "0 0 0 0 0 0 8 0 0 0 0"},
		"snapshot": {impl.Obs{View: impl.View{Snap: 9}}, "0 0 0 0 0 0 0 9 0 0 0"},
		"base":     {impl.Obs{View: impl.View{Base: 10}}, "0 0 0 0 0 0 0 0 10 0 0"},
		"count":    {impl.Obs{View: impl.View{Count: 11}}, "0 0 0 0 0 0 0 0 0 11 0"},
		"sent":     {impl.Obs{Sent: make([]impl.Message, 12)}, "0 0 0 0 0 0 0 0 0 0 12"},
		"one sent": {impl.Obs{Sent: []impl.Message{{Kind: 3, From: 1, To: 2, Term: 3, Data: []byte("a")}}}, "0 0 0 0 0 0 0 0 0 0 1"},

		"an ack that is zero": {impl.Obs{Acks: make([]impl.Ack, 1)}, zeros + " a:0:0:0:0:0"},
		"two acks": {
			impl.Obs{Acks: []impl.Ack{{Node: 1, Client: 2, Seq: 3, Place: 4, Index: 5}, {Node: 1, Client: 20, Seq: 30, Place: 40, Index: 50}}},
			zeros + " a:1:2:3:4:5 a:1:20:30:40:50",
		},

		"item":             {impl.Obs{Item: item(1, 2, "ab")}, zeros + " i:1:2:6162"},
		"client alone":     {impl.Obs{Item: item(1, 0, "")}, zeros + " i:1:0:-"},
		"seq alone":        {impl.Obs{Item: item(0, 1, "")}, zeros + " i:0:1:-"},
		"client below 0":   {impl.Obs{Item: item(-1, 0, "")}, zeros + " i:-1:0:-"},
		"seq below 0":      {impl.Obs{Item: item(0, -1, "")}, zeros + " i:0:-1:-"},
		"data alone":       {impl.Obs{Item: item(0, 0, "\x00")}, zeros + " i:0:0:00"},
		"empty data alone": {impl.Obs{Item: impl.Item{Data: []byte{}}}, zeros},
		"empty data":       {impl.Obs{Item: impl.Item{Client: 3, Data: []byte{}}}, zeros + " i:3:0:-"},

		"service":              {impl.Obs{Service: impl.Service{Base: 4, Kept: []impl.Item{item(1, 2, "a"), item(3, 4, "")}}}, zeros + " s:4 k:1:2:61 k:3:4:-"},
		"base alone":           {impl.Obs{Service: impl.Service{Base: 4}}, zeros + " s:4"},
		"base below 0":         {impl.Obs{Service: impl.Service{Base: -4}}, zeros + " s:-4"},
		"kept alone":           {impl.Obs{Service: impl.Service{Kept: []impl.Item{item(1, 2, "a")}}}, zeros + " s:0 k:1:2:61"},
		"a kept one, all zero": {impl.Obs{Service: impl.Service{Kept: make([]impl.Item, 1)}}, zeros + " s:0 k:0:0:-"},
		"sessions alone":       {impl.Obs{Service: impl.Service{Sessions: []impl.Session{session(1, 2, 3, "a")}}}, zeros},
		"base and sessions":    {impl.Obs{Service: impl.Service{Base: 5, Sessions: []impl.Session{session(1, 2, 3, "a")}}}, zeros + " s:5"},
		"empty lists":          {impl.Obs{Service: impl.Service{Kept: []impl.Item{}, Sessions: []impl.Session{}}, Acks: []impl.Ack{}, Sent: []impl.Message{}}, zeros},

		"all": {
			impl.Obs{
				Code: 1, Index: 2, Item: item(3, 4, "\xff\x0a"), Service: impl.Service{Base: 5, Kept: []impl.Item{item(6, 7, " ")}},
				Acks: []impl.Ack{{Node: 8, Client: 9, Seq: 10, Place: 11, Index: 12}}, Sent: make([]impl.Message, 13),
				View: impl.View{Role: 14, Term: 15, Vote: 16, Commit: 17, Last: 18, Snap: 19, Base: 20, Count: 21},
			},
			"1 2 14 15 16 17 18 19 20 21 13 a:8:9:10:11:12 i:3:4:ff0a s:5 k:6:7:20",
		},
		"an item and a service": {impl.Obs{Item: item(0, 9, ""), Service: impl.Service{Base: 1}}, zeros + " i:0:9:- s:1"},
	} {
		wantText(t, what, impl.TellReport(impl.Report{Obs: []impl.Obs{c.obs}}), "code 0\n"+c.want+"\n")
		wantText(t, what+", thrice", impl.TellReport(impl.Report{Code: 3, Obs: []impl.Obs{c.obs, {}, c.obs}}), "code 3\n"+c.want+"\n"+zeros+"\n"+c.want+"\n")
	}
}

func TestTellCodes(t *testing.T) {
	for code := -30; code < 30; code++ {
		wantText(t, "no observations", impl.TellReport(impl.Report{Code: code}), fmt.Sprintf("code %d\n", code))
		wantText(t, "an empty list", impl.TellReport(impl.Report{Code: code, Obs: []impl.Obs{}}), fmt.Sprintf("code %d\n", code))
		wantText(t, "one", impl.TellReport(impl.Report{Code: code, Obs: []impl.Obs{{Code: -code}}}), fmt.Sprintf("code %d\n%d 0 0 0 0 0 0 0 0 0 0\n", code, -code))
	}
}

func TestTellEachByte(t *testing.T) {
	all := make([]byte, 256)
	for k := range all {
		all[k] = byte(k)
		one := impl.Obs{Item: impl.Item{Data: all[k : k+1]}}
		wantText(t, fmt.Sprint("byte ", k), impl.TellReport(impl.Report{Obs: []impl.Obs{one}}), fmt.Sprintf("code 0\n%s i:0:0:%02x\n", zeros, k))
	}
	whole := impl.Obs{Service: impl.Service{Kept: []impl.Item{{Data: all}}}}
	wantText(t, "all bytes", impl.TellReport(impl.Report{Obs: []impl.Obs{whole}}), fmt.Sprintf("code 0\n%s s:0 k:0:0:%x\n", zeros, all))
}

// Numbers are told whatever their size.
func TestTellBounds(t *testing.T) {
	for _, n := range []int{math.MinInt, math.MinInt + 1, -1000000000000000000, -10, -1, 9, 10, 99, 1000000000000000000, math.MaxInt - 1, math.MaxInt} {
		v := impl.View{Role: n, Term: n, Vote: n, Commit: n, Last: n, Snap: n, Base: n, Count: n}
		x := impl.Item{Client: n, Seq: n}
		o := impl.Obs{
			Code: n, Index: n, View: v, Item: x, Service: impl.Service{Base: n, Kept: []impl.Item{x}},
			Acks: []impl.Ack{{Node: n, Client: n, Seq: n, Place: n, Index: n}},
		}
		want := strings.ReplaceAll("code N\nN N N N N N N N N N 0 a:N:N:N:N:N i:N:N:- s:N k:N:N:-\n", "N", fmt.Sprint(n))
		wantText(t, fmt.Sprint(n), impl.TellReport(impl.Report{Code: n, Obs: []impl.Obs{o}}), want)
	}
}

func TestRunTextBad(t *testing.T) {
	for text, want := range map[string]string{
		"beet 1":                        "bad 16 1\n",
		"nodes 1\nbeat":                 "bad 17 2\n",
		"\n\n# beat\n\tbeat x\nbeet":    "bad 18 4\n",
		"beat 1\nrestart 1 A0\n":        "bad 19 2\n",
		"nodes 0\nbeat 1 1":             "bad 17 2\n",
		"beat 1\r\n":                    "bad 18 1\n",
		filled("", impl.MaxScript+1):    "bad 15 0\n",
		strings.Repeat("x\n", 40000):    "bad 15 0\n",
		strings.Repeat("\n", 999) + "x": "bad 16 1000\n",
		// A fault of the text comes ahead of those of the run.
		strings.Repeat("dup 1\n", impl.MaxEvents+1) + "dup": "bad 17 5002\n",
		"nodes 8\nnodes x": "bad 18 2\n",
	} {
		wantRunText(t, text, want)
	}
}

func TestRunTextBounds(t *testing.T) {
	for text, want := range map[string]string{
		"":                                   "code 0\n",
		"# nothing":                          "code 0\n",
		"nodes 0":                            "code 5\n",
		"nodes 8\nbeat 1":                    "code 5\n",
		"nodes -1\nbeat 1":                   "code 5\n",
		"nodes " + nines:                     "code 5\n",
		"nodes -" + nines:                    "code 5\n",
		"nodes 3\nbeat 1\nnodes 0":           "code 5\n",
		"nodes 0\nbeat 1\nnodes 1":           "code 0\n12 0 2 0 0 0 0 0 0 0 0\n",
		"nodes 1":                            "code 0\n",
		"nodes 7\ncapacity 0":                "code 0\n",
		"capacity 0\nbeat 1\ncrash 1":        "code 0\n9 0 1 0 0 0 0 0 0 0 0\n0 0 0 0 0 0 0 0 0 0 0\n",
		"capacity -" + nines + "\ntimeout 1": "code 0\n9 0 1 0 0 0 0 0 0 0 0\n",
		"nodes 1\ncapacity " + nines + "\ntimeout 1": "code 0\n0 0 4 1 1 1 1 0 0 0 0\n",
		// Three nodes, if nothing else is said.
		"dump 3\ndump 4\ndump 0\ndump -1": "code 0\n0 0 2 0 0 0 0 0 0 0 0\n5" + zeros[1:] + "\n5" + zeros[1:] + "\n5" + zeros[1:] + "\n",
	} {
		wantRunText(t, text, want)
	}
	most := strings.Repeat("dup 1\n", impl.MaxEvents)
	wantRunText(t, most, "code 0\n"+strings.Repeat("3"+zeros[1:]+"\n", impl.MaxEvents))
	wantRunText(t, most+"dup 1", "code 15\n")
	wantRunText(t, most+"nodes 2\ncapacity 1\n# remark\n", "code 0\n"+strings.Repeat("3"+zeros[1:]+"\n", impl.MaxEvents))
	wantRunText(t, "nodes 8\n"+most+"dup 1", "code 5\n")
}

// A disk of 65536 bytes, if nothing else is said: a script of small items fills it.
func TestRunTextCapacity(t *testing.T) {
	var script strings.Builder
	script.WriteString("nodes 1\ntimeout 1\n")
	for k := range 3000 {
		fmt.Fprintf(&script, "append 1 1 %d -\n", k+1)
	}
	usual := string(impl.RunText([]byte(script.String())))
	full := strings.Index(usual, "\n6 0 1 0 0 0 0 0 0 0 0\n")
	if full < 0 {
		t.Fatal("the disk has room for all")
	}
	wantRunText(t, script.String()+"capacity 65536", usual)
	less := string(impl.RunText([]byte(script.String() + "capacity 65000")))
	if at := strings.Index(less, "\n6 0 1 0 0 0 0 0 0 0 0\n"); at < 0 || at >= full {
		t.Errorf("with less room the disk is full at %d, with the usual one at %d", at, full)
	}
	wantRunText(t, script.String(), modelRunText(script.String()))
}

// A script and what is told of it, line by line.
func TestRunTextByHand(t *testing.T) {
	script, want := "nodes 3\ncapacity 9999\n", "code 0\n"
	for _, c := range []struct{ line, told string }{
		{"timeout 1", "0 0 3 1 1 0 0 0 0 0 2"},
		{"deliver 1", "0 0 2 1 1 0 0 0 0 0 1"}, // node 2 votes
		{"deliver 2", "0 0 4 1 1 0 1 0 0 0 2"},
		{"append 1 7 1 78", "0 2 4 1 1 0 2 0 0 0 2"},
		{"deliver 4", "0 0 2 1 1 0 2 0 0 0 1"}, // node 2 has both entries
		{"deliver 5", "0 0 4 1 1 2 2 0 0 1 0 a:1:7:1:0:2"},
		{"read 1 0", "0 0 4 1 1 2 2 0 0 1 0 i:7:1:78"},
		{"read 1 1", "13 0 4 1 1 2 2 0 0 1 0"},
		{"read 2 0", "13 0 2 1 1 0 2 0 0 0 0"},
		{"dump 1", "0 0 4 1 1 2 2 0 0 1 0 s:0 k:7:1:78"},
		{"dump 2", "0 0 2 1 1 0 2 0 0 0 0"},
		{"snap 1", "0 0 4 1 1 2 2 2 1 1 0"},
		{"read 1 0", "14 0 4 1 1 2 2 2 1 1 0"},
		{"dump 1", "0 0 4 1 1 2 2 2 1 1 0 s:1"},
		{"crash 3", zeros},
		{"deliver 1", "11 0 0 0 0 0 0 0 0 0 0"},
		{"drop 1", zeros},
		{"dup 99", "3 0 0 0 0 0 0 0 0 0 0"},
		{"restart 3 ff00", "0 0 2 0 0 0 0 0 0 0 0"},
		{"fuse 3 0", "0 0 2 0 0 0 0 0 0 0 0"},
		{"timeout 3", "7 0 1 0 0 0 0 0 0 0 0"},
		{"restart 3 -", "0 0 2 0 0 0 0 0 0 0 0"},
		{"cap 3 100", "0 0 2 0 0 0 0 0 0 0 0"},
		{"timeout 3", "0 0 3 1 3 0 0 0 0 0 2"},
		{"beat 2", "12 0 2 1 1 0 2 0 0 0 0"},
		{"append 2 1 1 -", "12 0 2 1 1 0 2 0 0 0 0"},
		{"append 1 51 1 -", "5 0 4 1 1 2 2 2 1 1 0"},
		{"append 1 7 2 -", "0 3 4 1 1 2 3 2 1 1 2"},
		{"snap 1", "3 0 4 1 1 2 3 2 1 1 0"},
	} {
		script += c.line + "\n"
		want += c.told + "\n"
	}
	wantRunText(t, script, want)
	wantRunText(t, strings.ReplaceAll("# a remark\n"+script, " ", "\t "), want)
	wantText(t, "the model", []byte(modelRunText(script)), want)
}
