package tests

import (
	"strings"
	"testing"

	"loop.example/s01723/impl"
)

// Promise 17: what each row of the table gives.
func TestParseRows(t *testing.T) {
	for text, want := range map[string]impl.Event{
		"timeout 1":             {Kind: impl.EvTimeout, Node: 1},
		"beat 2":                {Kind: impl.EvBeat, Node: 2},
		"append 1 2 3 61ff":     {Kind: impl.EvAppend, Node: 1, A: 2, B: 3, Data: []byte("a\xff")},
		"append -1 -2 -3 -":     {Kind: impl.EvAppend, Node: -1, A: -2, B: -3},
		"read 4 5":              {Kind: impl.EvRead, Node: 4, A: 5},
		"deliver 6":             {Kind: impl.EvDeliver, A: 6},
		"drop 7":                {Kind: impl.EvDrop, A: 7},
		"dup 8":                 {Kind: impl.EvDup, A: 8},
		"crash 9":               {Kind: impl.EvCrash, Node: 9},
		"fuse 10 11":            {Kind: impl.EvFuse, Node: 10, A: 11},
		"restart 12 00":         {Kind: impl.EvRestart, Node: 12, Data: []byte{0}},
		"restart 0 -":           {Kind: impl.EvRestart},
		"cap 13 14":             {Kind: impl.EvCap, Node: 13, A: 14},
		"snap 15":               {Kind: impl.EvSnap, Node: 15},
		"dump 16":               {Kind: impl.EvDump, Node: 16},
		"dump 0":                {Kind: impl.EvDump},
		"deliver 0":             {Kind: impl.EvDeliver},
		"read 0 -1":             {Kind: impl.EvRead, A: -1},
		"fuse 1 -1":             {Kind: impl.EvFuse, Node: 1, A: -1},
		"cap 1 999999999999999": {Kind: impl.EvCap, Node: 1, A: 999999999999999},
	} {
		wantScript(t, text, want)
		wantScript(t, text+"\n", want)
		wantScript(t, "\n \t\n"+text+"\n\n"+text, want, want)
	}
}

func TestParseNothing(t *testing.T) {
	for _, text := range []string{"", "\n", "\n\n\n", " ", "\t", " \t \t", " \n\t\n \t\n", "#", "# nodes 5", " \t#\n#x\n\t##", "#\xff\x00\r"} {
		wantScript(t, text)
	}
	if p := impl.ParseScript(nil); p.Code != impl.OK || p.Nodes != 3 || p.Capacity != 65536 || len(p.Events) != 0 || p.Line != 0 {
		t.Errorf("nil: %+v", p)
	}
}

func TestParseBlanks(t *testing.T) {
	want := evAppend(1, 2, 3, "a")
	for _, text := range []string{
		"append 1 2 3 61", " append 1 2 3 61", "append 1 2 3 61 ", "append\t1\t2\t3\t61", "\t \tappend  1\t\t2 \t3\t 61\t \t",
		"append 1 2 3 61\n", "append 1 2 3 61 \n\t", "\nappend 1 2 3 61",
	} {
		wantScript(t, text, want)
	}
	wantScript(t, "beat 1\n\n \nbeat 2\n", evBeat(1), evBeat(2))
	wantFault(t, "appen d 1 2 3 61", impl.ErrWord, 1)
	wantFault(t, "append 1 2 3 6 1", impl.ErrArgs, 1)
	wantFault(t, "append\n1 2 3 61", impl.ErrArgs, 1)
}

// A remark has its # at the beginning of the first word; elsewhere it is a byte as others are.
func TestParseRemarks(t *testing.T) {
	wantScript(t, "# one\nbeat 1\n  # two\n\t#three\nbeat 2\n#beat 3\n# beat x y", evBeat(1), evBeat(2))
	wantFault(t, "#\nbeat #1", impl.ErrNumber, 2)
	wantFault(t, "beat 1#", impl.ErrNumber, 1)
	wantFault(t, "beat 1 #", impl.ErrArgs, 1)
	wantFault(t, "beat 1 # remark", impl.ErrArgs, 1)
	wantFault(t, "beat #", impl.ErrNumber, 1)
	wantFault(t, "beat# 1", impl.ErrWord, 1)
	wantFault(t, "restart 1 #", impl.ErrHex, 1)
	wantFault(t, "restart 1 61#", impl.ErrHex, 1)
	wantFault(t, "restart 1 6#", impl.ErrHex, 1)
	wantFault(t, "restart # #", impl.ErrNumber, 1)
}

// Space and tab alone lie between words, and the newline byte alone between lines.
func TestParseEachByte(t *testing.T) {
	for k := range 256 {
		b := string([]byte{byte(k)})
		ahead, between, behind := impl.ErrWord, impl.ErrWord, impl.ErrNumber
		switch {
		case b == " " || b == "\t":
			ahead, between, behind = impl.OK, impl.OK, impl.OK
		case b == "\n":
			ahead, between, behind = impl.OK, impl.ErrArgs, impl.OK
		case b == "#":
			ahead = impl.OK
		case b >= "0" && b <= "9":
			behind = impl.OK
		}
		for text, code := range map[string]int{b + "beat 1": ahead, "beat" + b + "1": between, "beat 1" + b: behind} {
			p := impl.ParseScript([]byte(text))
			if p.Code != code || code != impl.OK && p.Line != 1 || code == impl.OK && p.Line != 0 {
				t.Errorf("%q: code %d, line %d, want code %d", text, p.Code, p.Line, code)
			}
			wantParsed(t, text, modelParse(text))
		}
	}
	for _, space := range []string{"\r", "\v", "\f", "\x00", "\u0085", "\u00a0", "\u2003", "\u2028", "\ufeff", "\x85", "\xa0", "\xc2"} {
		wantFault(t, "beat 1\n"+space+"\n", impl.ErrWord, 2)
		wantFault(t, space+"# remark", impl.ErrWord, 1)
		wantFault(t, "beat 1"+space+"\nbeat 2", impl.ErrNumber, 1)
		wantFault(t, "beat 1 "+space, impl.ErrArgs, 1)
		wantFault(t, "restart 1 61"+space, impl.ErrHex, 1)
		wantFault(t, "beat"+space+"1", impl.ErrWord, 1)
	}
	wantFault(t, "beat 1\r\nbeat 2\r\n", impl.ErrNumber, 1)
	wantFault(t, "\r\n", impl.ErrWord, 1)
}

// rowText is a line of the row, with what the words of one field are.
func rowText(word string, row modelLine, field, as string) string {
	for _, f := range row.fields {
		switch {
		case f == field:
			word += " " + as
		case f == "Data":
			word += " 00"
		default:
			word += " 1"
		}
	}
	return word
}

func TestParseArgs(t *testing.T) {
	for word, row := range modelLines {
		whole := rowText(word, row, "", "")
		wantParsed(t, whole, modelParse(whole))
		if code := impl.ParseScript([]byte(whole)).Code; code != impl.OK {
			t.Errorf("%q: code %d", whole, code)
		}
		fewer := whole[:strings.LastIndexByte(whole, ' ')]
		for _, text := range []string{word, word + " ", fewer, fewer + "\t", whole + " 1", whole + " -", whole + " 1 1 1 1", whole + " x"} {
			wantFault(t, "beat 1\n"+text+"\nbeat 1", impl.ErrArgs, 2)
		}
	}
}

func TestParseUnknownWords(t *testing.T) {
	for _, word := range []string{
		"beet", "Beat", "BEAT", "bea", "beats", "beat1", "node", "nodess", "capacit", "capa", "appen", "ca", "caps", "event", "1", "-", "0", "61",
		"beat,", "\xff", "beat\x00", "install", "time", "timeouts", ".", "b", "nodes#", "-#",
	} {
		for _, rest := range []string{"", " 1", " 1 1", " x", " 1 2 3 61", " x y z z z", " #", " nodes 3"} {
			wantFault(t, word+rest, impl.ErrWord, 1)
			wantFault(t, "nodes 5\nbeat 1\n\t "+word+rest+"\nbeat 1\n", impl.ErrWord, 3)
		}
	}
}

// Of two faults in a line the one that is looked for first is told, of two faulty lines the first.
func TestParseOrderOfFaults(t *testing.T) {
	for text, code := range map[string]int{
		"beet x y":            impl.ErrWord,
		"beet":                impl.ErrWord,
		"beat x y":            impl.ErrArgs,
		"append x y z":        impl.ErrArgs,
		"append 1 1 1 6 6":    impl.ErrArgs,
		"restart 6":           impl.ErrArgs,
		"append x 1 1 z":      impl.ErrNumber,
		"append 1 x 1 z":      impl.ErrNumber,
		"append 1 1 x z":      impl.ErrNumber,
		"append 1 1 1 z":      impl.ErrHex,
		"append 1 1 01 6A":    impl.ErrNumber,
		"append 1 1 -0 -":     impl.ErrNumber,
		"restart - -":         impl.ErrNumber,
		"restart 1 1":         impl.ErrHex,
		"restart x x":         impl.ErrNumber,
		"read 1 61 -":         impl.ErrArgs,
		"fuse 1 -":            impl.ErrNumber,
		"capacity 6a":         impl.ErrNumber,
		"nodes":               impl.ErrArgs,
		"nodes 1 2":           impl.ErrArgs,
		"nodes three":         impl.ErrNumber,
		"append 1 1 1 616":    impl.ErrHex,
		"append 1.0 1 1 61":   impl.ErrNumber,
		"append 1 1 0x1 0x61": impl.ErrNumber,
	} {
		wantFault(t, text, code, 1)
		for _, other := range []string{"beet 1", "beat", "beat x", "restart 1 x"} {
			wantFault(t, "\n# remark\n"+text+"\n"+other, code, 3)
			wantFault(t, "dump 1\n"+text+"\n\n"+other+"\n", code, 2)
		}
	}
	wantFault(t, "beat x\nbeet 1\nbeat", impl.ErrNumber, 1)
	wantFault(t, strings.Repeat("\n", 1000)+"beat", impl.ErrArgs, 1001)
	wantFault(t, strings.Repeat("beat 1\n", 5001)+"beat", impl.ErrArgs, 5002)
}

const (
	eighteen = "123456789012345678"
	nines    = "999999999999999999"
)

func TestParseNumbers(t *testing.T) {
	good := map[string]int{
		"0": 0, "1": 1, "9": 9, "10": 10, "100": 100, "-1": -1, "-10": -10, "-9": -9, "65536": 65536, "1000000001": 1000000001,
		eighteen: 123456789012345678, "-" + eighteen: -123456789012345678, nines: 999999999999999999, "-" + nines: -999999999999999999,
		"100000000000000000": 100000000000000000, "-100000000000000000": -100000000000000000,
	}
	bad := []string{
		"-0", "-", "+1", "+0", "+", "--1", "-+1", "+-1", "00", "01", "007", "-01", "-00", "000000000000000000", "0000000000000000001",
		"1234567890123456789", "-1234567890123456789", "1000000000000000000", "-1000000000000000000", "9223372036854775807", "9223372036854775808",
		"-9223372036854775808", "18446744073709551616", strings.Repeat("9", 1000), "1-", "1-1", "1_000", "1,000", "1.", "1.0", ".1", "1e3", "0x1", "0b1", "0o7",
		"a", "1a", "a1", "x", "#", "1#", "١", "１", "1\x00", "\x001", "/", ":", "1/", "1:", "-/", "-:", "-a", "''", "1\r", "1\xb2", "−1",
	}
	for word, row := range modelLines {
		for _, field := range row.fields {
			if field == "Data" {
				continue
			}
			for as, n := range good {
				text := rowText(word, row, field, as)
				want := modelParse(text)
				wantParsed(t, text, want)
				fields := map[string]int{"Nodes": want.Nodes, "Capacity": want.Capacity}
				for _, e := range want.Events {
					fields["Node"], fields["A"], fields["B"] = e.Node, e.A, e.B
				}
				if fields[field] != n {
					t.Errorf("%q: the model says %d, not %d", text, fields[field], n)
				}
			}
			for _, as := range bad {
				wantFault(t, rowText(word, row, field, as), impl.ErrNumber, 1)
			}
		}
	}
}

func TestParseHex(t *testing.T) {
	good := map[string]string{
		"-": "", "00": "\x00", "ff": "\xff", "0f": "\x0f", "f0": "\xf0", "09": "\x09", "90": "\x90", "a9": "\xa9", "9a": "\x9a", "61": "a", "6162": "ab",
		"0123456789abcdef": "\x01\x23\x45\x67\x89\xab\xcd\xef", "0000": "\x00\x00", "2d": "-", "0a": "\n", "20": " ",
		strings.Repeat("7a", 1000): strings.Repeat("z", 1000), "10": "\x10", "01": "\x01",
	}
	for k := range 256 {
		good[hexOf([]byte{byte(k)})] = string([]byte{byte(k)})
	}
	bad := []string{
		"0", "6", "616", "a", "f", "--", "---", "-61", "61-", "6-", "-6", "6A", "A6", "AA", "FF", "fF", "6g", "g6", "gg", "0x61", "x1", "1x", "6:", ":6", "6/",
		"/6", "6`", "`6", "6@", "@6", "6G", "6\x00", "\x006", "é", "éé", "6\xb2", "#", "##", "6#", "\r\r", "61\r", "61\r\r", "+1", "'-'", "٦٦", "00000g",
		"g00000", strings.Repeat("a", 999), strings.Repeat("a", 999) + "A", "\u2010", "−",
	}
	for word, row := range modelLines {
		if row.fields[len(row.fields)-1] != "Data" {
			continue
		}
		for as, data := range good {
			text := rowText(word, row, "Data", as)
			p := impl.ParseScript([]byte(text))
			if p.Code != impl.OK || len(p.Events) != 1 || string(p.Events[0].Data) != data {
				t.Errorf("%s: %+v", shortened(text), p)
			}
			wantParsed(t, text, modelParse(text))
		}
		for _, as := range bad {
			wantFault(t, rowText(word, row, "Data", as), impl.ErrHex, 1)
		}
	}
}

func TestParseSettings(t *testing.T) {
	beat := []impl.Event{evBeat(1)}
	for _, c := range []struct {
		text        string
		nodes, room int
		events      []impl.Event
	}{
		{"nodes 5", 5, 65536, nil},
		{"capacity 77", 3, 77, nil},
		{"capacity 77\nnodes 5", 5, 77, nil},
		{"nodes 5\nnodes 1\nnodes 7", 7, 65536, nil},
		{"nodes 7\nnodes 3", 3, 65536, nil},
		{"capacity 1\ncapacity 2\nbeat 1\ncapacity 0\n", 3, 0, beat},
		{"nodes 5\nbeat 1\nnodes 1", 1, 65536, beat},
		{"beat 1\nnodes 2\ncapacity 10", 2, 10, beat},
		{"nodes 0\ncapacity -1", 0, -1, nil},
		{"nodes -5\nbeat 1", -5, 65536, beat},
		{"nodes " + nines + "\ncapacity -" + nines, 999999999999999999, -999999999999999999, nil},
		{"#nodes 5\n # capacity 5\nbeat 1", 3, 65536, beat},
	} {
		wantParsed(t, c.text, impl.Parsed{Nodes: c.nodes, Capacity: c.room, Events: c.events})
	}
	// Beside a code nothing of what was read ahead of it is left.
	for _, text := range []string{"nodes 5\ncapacity 9\nbeat 1\nbeat", "nodes 5\nbeat 1\ncapacity 9\nnodes", "beat 1\ncapacity 5\n\ncapacity 6 7"} {
		wantFault(t, text, impl.ErrArgs, 4)
	}
}

// filled is the text with a remark behind it that makes it that long.
func filled(text string, size int) string {
	return text + "\n#" + strings.Repeat("x", size-len(text)-2)
}

func TestParseGreat(t *testing.T) {
	if impl.MaxScript != 65536 {
		t.Errorf("MaxScript is %d", impl.MaxScript)
	}
	wantScript(t, filled("beat 1", impl.MaxScript-1), evBeat(1))
	wantScript(t, filled("beat 1", impl.MaxScript), evBeat(1))
	wantFault(t, filled("beat 1", impl.MaxScript+1), impl.ErrLarge, 0)
	// The length is looked at ahead of all lines.
	wantFault(t, filled("beat", impl.MaxScript), impl.ErrArgs, 1)
	wantFault(t, filled("beat", impl.MaxScript+1), impl.ErrLarge, 0)
	wantFault(t, strings.Repeat("beat 1\n", impl.MaxScript), impl.ErrLarge, 0)
	for _, line := range []string{"\n", " ", "\t", " \n", "\n#", "#"} {
		whole := strings.Repeat(line, impl.MaxScript/len(line))
		wantScript(t, whole)
		wantFault(t, whole+line, impl.ErrLarge, 0)
	}
	wantFault(t, strings.Repeat("\n", impl.MaxScript-1)+"x", impl.ErrWord, impl.MaxScript)
	wantFault(t, strings.Repeat("\n", impl.MaxScript-4)+"beat", impl.ErrArgs, impl.MaxScript-3)
	wantFault(t, strings.Repeat("x ", impl.MaxScript/2), impl.ErrWord, 1)
	wantFault(t, "beat"+strings.Repeat(" 1", 30000), impl.ErrArgs, 1)
	wantFault(t, "beat "+strings.Repeat("1", 65000), impl.ErrNumber, 1)
	wantFault(t, strings.Repeat("x\n", impl.MaxScript/2), impl.ErrWord, 1)
	// Parsing counts no events: more than a run takes are read all the same.
	var many []impl.Event
	for range impl.MaxScript / len("dup 1\n") {
		many = append(many, evDup(1))
	}
	if len(many) <= impl.MaxEvents {
		t.Fatalf("%d events", len(many))
	}
	wantScript(t, strings.Repeat("dup 1\n", len(many)), many...)
	half := (impl.MaxScript - len("restart 1 ")) / 2
	wantScript(t, "restart 1 "+strings.Repeat("01", half), evRestart(1, []byte(strings.Repeat("\x01", half))...))
}
