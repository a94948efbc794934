package tests

import (
	"encoding/hex"
	"fmt"
	"regexp"
	"strconv"
	"strings"
	"testing"

	"loop.example/s01723/impl"
)

// The model of chapter 8, word by word, and short forms for its tests.

// modelLine is a row of chapter 8's table: the kind, and the fields that the further words give.
type modelLine struct {
	kind   int
	fields []string
}

var modelLines = map[string]modelLine{
	"nodes":    {0, []string{"Nodes"}},
	"capacity": {0, []string{"Capacity"}},
	"timeout":  {1, []string{"Node"}},
	"beat":     {2, []string{"Node"}},
	"crash":    {8, []string{"Node"}},
	"snap":     {12, []string{"Node"}},
	"dump":     {13, []string{"Node"}},
	"append":   {3, []string{"Node", "A", "B", "Data"}},
	"read":     {4, []string{"Node", "A"}},
	"fuse":     {9, []string{"Node", "A"}},
	"cap":      {11, []string{"Node", "A"}},
	"deliver":  {5, []string{"A"}},
	"drop":     {6, []string{"A"}},
	"dup":      {7, []string{"A"}},
	"restart":  {10, []string{"Node", "Data"}},
}

var (
	modelNumber = regexp.MustCompile(`^(0|-?[1-9][0-9]{0,17})$`)
	modelHex    = regexp.MustCompile(`^(-|([0-9a-f][0-9a-f])+)$`)
)

// modelWord puts what a word gives where it belongs, or tells its fault.
func modelWord(p *impl.Parsed, e *impl.Event, field, word string) int {
	if field == "Data" {
		if !modelHex.MatchString(word) {
			return 19
		}
		e.Data, _ = hex.DecodeString(strings.TrimPrefix(word, "-"))
		return 0
	}
	if !modelNumber.MatchString(word) {
		return 18
	}
	n, _ := strconv.Atoi(word)
	*map[string]*int{"Nodes": &p.Nodes, "Capacity": &p.Capacity, "Node": &e.Node, "A": &e.A, "B": &e.B}[field] = n
	return 0
}

func modelParseLine(p *impl.Parsed, words []string) int {
	row, known := modelLines[words[0]]
	if !known {
		return 16
	}
	if len(words) != 1+len(row.fields) {
		return 17
	}
	e := impl.Event{Kind: row.kind}
	for k, field := range row.fields {
		if code := modelWord(p, &e, field, words[1+k]); code != 0 {
			return code
		}
	}
	if row.kind != 0 {
		p.Events = append(p.Events, e)
	}
	return 0
}

func modelParse(text string) impl.Parsed {
	if len(text) > 65536 {
		return impl.Parsed{Code: 15}
	}
	p := impl.Parsed{Nodes: 3, Capacity: 65536}
	for k, line := range strings.Split(text, "\n") {
		words := strings.FieldsFunc(line, func(r rune) bool { return r == ' ' || r == '\t' })
		if len(words) == 0 || strings.HasPrefix(words[0], "#") {
			continue
		}
		if code := modelParseLine(&p, words); code != 0 {
			return impl.Parsed{Code: code, Line: k + 1}
		}
	}
	return p
}

func hexOf(data []byte) string {
	if len(data) == 0 {
		return "-"
	}
	return fmt.Sprintf("%x", data)
}

func modelTell(r impl.Report) string {
	var out strings.Builder
	fmt.Fprintf(&out, "code %d\n", r.Code)
	for _, o := range r.Obs {
		fmt.Fprintf(&out, "%d %d %s %d", o.Code, o.Index, strings.Trim(fmt.Sprint(o.View), "{}"), len(o.Sent))
		for _, a := range o.Acks {
			fmt.Fprintf(&out, " a:%d:%d:%d:%d:%d", a.Node, a.Client, a.Seq, a.Place, a.Index)
		}
		if x := o.Item; x.Client != 0 || x.Seq != 0 || len(x.Data) != 0 {
			fmt.Fprintf(&out, " i:%d:%d:%s", x.Client, x.Seq, hexOf(x.Data))
		}
		if s := o.Service; s.Base != 0 || len(s.Kept) != 0 {
			fmt.Fprintf(&out, " s:%d", s.Base)
		}
		for _, x := range o.Service.Kept {
			fmt.Fprintf(&out, " k:%d:%d:%s", x.Client, x.Seq, hexOf(x.Data))
		}
		out.WriteString("\n")
	}
	return out.String()
}

// modelRunText is RunText by the models of this chapter and of chapter 7.
func modelRunText(text string) string {
	p := modelParse(text)
	switch {
	case p.Code != 0:
		return fmt.Sprintf("bad %d %d\n", p.Code, p.Line)
	case p.Nodes < 1 || p.Nodes > 7:
		return "code 5\n"
	case len(p.Events) > 5000:
		return "code 15\n"
	}
	c := newModelCluster(p.Nodes, p.Capacity)
	var r impl.Report
	for _, e := range p.Events {
		r.Obs = append(r.Obs, c.do(e))
	}
	return modelTell(r)
}

func tellParsed(p impl.Parsed) string {
	return fmt.Sprintf("code %d, line %d, %d nodes, capacity %d\n%s", p.Code, p.Line, p.Nodes, p.Capacity, tellEvents(p.Events))
}

// shortened is for texts that are too long to be told whole.
func shortened(text string) string {
	if len(text) > 300 {
		return fmt.Sprintf("%d bytes, %q ..", len(text), text[:300])
	}
	return fmt.Sprintf("%q", text)
}

func wantParsed(t *testing.T, text string, want impl.Parsed) {
	t.Helper()
	if got := tellParsed(impl.ParseScript([]byte(text))); got != tellParsed(want) {
		t.Errorf("%s:\n got %s\nwant %s", shortened(text), shortened(got), shortened(tellParsed(want)))
	}
}

// wantScript asks for these events, with nodes and capacity left out in the text.
func wantScript(t *testing.T, text string, events ...impl.Event) {
	t.Helper()
	wantParsed(t, text, impl.Parsed{Nodes: 3, Capacity: 65536, Events: events})
}

// wantFault asks for all else to be zero.
func wantFault(t *testing.T, text string, code, line int) {
	t.Helper()
	wantParsed(t, text, impl.Parsed{Code: code, Line: line})
}

func wantText(t *testing.T, what string, got []byte, want string) {
	t.Helper()
	if string(got) != want {
		t.Errorf("%s:\n got %s\nwant %s", what, shortened(string(got)), shortened(want))
	}
}

func wantRunText(t *testing.T, text, want string) {
	t.Helper()
	wantText(t, shortened(text), impl.RunText([]byte(text)), want)
}

// lineOf writes an event as a line, if a line can say it.
func lineOf(e impl.Event) (string, bool) {
	for word, row := range modelLines {
		if row.kind != e.Kind || e.Kind == 0 {
			continue
		}
		for _, field := range row.fields {
			if field == "Data" {
				word += " " + hexOf(e.Data)
				continue
			}
			n := strconv.Itoa(map[string]int{"Node": e.Node, "A": e.A, "B": e.B}[field])
			if !modelNumber.MatchString(n) {
				return "", false
			}
			word += " " + n
		}
		return word, true
	}
	return "", false
}
