package tests

import (
	"math"
	"math/rand/v2"
	"strings"
	"testing"

	"loop.example/s01723/impl"
)

func oneOf[T any](r *rand.Rand, list ...T) T { return list[r.IntN(len(list))] }

// laidOut writes lines with blanks, remarks and empty lines about them.
func laidOut(r *rand.Rand, lines []string) string {
	blanks := func() string { return oneOf(r, "", "", " ", "\t", "  \t") }
	var out strings.Builder
	for _, line := range lines {
		for r.IntN(4) == 0 {
			out.WriteString(blanks() + oneOf(r, "", "#", "# remark", "#beat 1", "# \xff\r\x00") + "\n")
		}
		out.WriteString(blanks() + strings.ReplaceAll(line, " ", oneOf(r, " ", "\t", " \t", "   ")) + blanks() + "\n")
	}
	return out.String()
}

// randomScript is a text whose events follow what happens, as those of a random play do.
func randomScript(t *testing.T, r *rand.Rand, w weather, nodes, room, events int) string {
	lines := []string{"nodes " + plain(nodes), "capacity " + plain(room)}
	for _, e := range randomPlay(t, r, w, nodes, room, events).events {
		if line, can := lineOf(e); can {
			lines = append(lines, line)
		}
	}
	return laidOut(r, lines)
}

func plain(n int) string {
	line, _ := lineOf(impl.Event{Kind: impl.EvDrop, A: n})
	return strings.TrimPrefix(line, "drop ")
}

// Promise 17, with 11: random scripts run as the models of chapters 7 and 8 tell, and are read as those who wrote them meant.
func TestRunTextAgainstModel(t *testing.T) {
	for name, w := range weathers {
		t.Run(name, func(t *testing.T) {
			t.Parallel()
			r := rand.New(rand.NewPCG(uint64(len(name)), 17))
			ran := 0
			for range 60 {
				text := randomScript(t, r, w, someNodes(r), oneOf(r, 30, 300, 2000, 20000, 65536), r.IntN(600))
				if len(text) <= impl.MaxScript {
					ran++
				}
				wantRunText(t, text, modelRunText(text))
				wantParsed(t, text, modelParse(text))
			}
			if ran < 30 {
				t.Errorf("only %d scripts are short enough", ran)
			}
		})
	}
}

// spoilText changes a few bytes, words or lines.
func spoilText(r *rand.Rand, text string) string {
	for range 1 + r.IntN(3) {
		at := r.IntN(len(text) + 1)
		to := min(len(text), at+r.IntN(3))
		piece := oneOf(r, "", " ", "\t", "\n", "#", "-", "0", "00", "1", "9", "a", "f", "A", "x", "\r", "\x00", "\xff", " 1", " -", "\nbeat", "\n nodes 4\n", string([]byte{byte(r.IntN(256))}))
		text = text[:at] + piece + text[to:]
	}
	return text
}

func randomWord(r *rand.Rand) string {
	return oneOf(r, "-", "-0", "0", "1", "-1", "007", nines, nines+"9", "61", "6a", "6A", "6", "-61", "+1", "#", "#1", "x", "\r", "1\r", "beat", "beet")
}

// randomLine is a right one, or one with a known word and a number of further words that may fit, or just some words.
func randomLine(r *rand.Rand) string {
	e := impl.Event{Kind: 1 + r.IntN(13), Node: r.IntN(9) - 1, A: oneOf(r, 0, 1, -1, 12345, 999999999999999999), B: r.IntN(100), Data: randomBytes(r, r.IntN(4))}
	line, _ := lineOf(e)
	words := []string{randomWord(r)}
	switch r.IntN(6) {
	case 0:
		words[0] = oneOf(r, "append", "restart", "read", "nodes", "capacity", "beat", "drop")
	case 1:
		words = strings.Split(line, " ")
		words[1+r.IntN(len(words)-1)] = randomWord(r)
		return strings.Join(words, " ")
	case 2:
	default:
		return line
	}
	for range r.IntN(6) {
		words = append(words, oneOf(r, "1", "61", randomWord(r)))
	}
	return strings.Join(words, " ")
}

// Promise 17: texts of all kinds are read as the model tells.
func TestParseAgainstModel(t *testing.T) {
	r := rand.New(rand.NewPCG(17, 1))
	codes := map[int]int{}
	for range 20000 {
		var lines []string
		for range r.IntN(6) {
			lines = append(lines, randomLine(r))
		}
		text := laidOut(r, lines)
		switch r.IntN(4) {
		case 0:
			text = spoilText(r, text)
		case 1:
			text = strings.TrimSuffix(text, "\n")
		}
		want := modelParse(text)
		codes[want.Code]++
		wantParsed(t, text, want)
		if t.Failed() {
			return
		}
	}
	for _, code := range []int{impl.OK, impl.ErrWord, impl.ErrArgs, impl.ErrNumber, impl.ErrHex} {
		if codes[code] < 100 {
			t.Errorf("only %d texts have code %d", codes[code], code)
		}
	}
}

// Promise 17: any bytes at all.
func TestParseAnyBytes(t *testing.T) {
	r := rand.New(rand.NewPCG(17, 2))
	for range 20000 {
		b := randomBytes(r, r.IntN(40))
		few := oneOf(r, "", "beat 1\n# \t", "nodes restart0123456789abf- \n\t", "dup -019\n ")
		for k := range b {
			if few != "" {
				b[k] = few[int(b[k])%len(few)]
			}
		}
		wantParsed(t, string(b), modelParse(string(b)))
		wantText(t, shortened(string(b)), impl.RunText(b), modelRunText(string(b)))
		if t.Failed() {
			return
		}
	}
}

// Promise 17: what ParseScript takes out of a text that tells events is those events.
func TestParseGivesBack(t *testing.T) {
	r := rand.New(rand.NewPCG(17, 3))
	for range 300 {
		var lines []string
		var events []impl.Event
		for range r.IntN(50) {
			far := func() int { return oneOf(r, 0, 1, -1, 999999999999999999, -999999999999999999, r.IntN(100000)) }
			e := impl.Event{Kind: 1 + r.IntN(13)}
			for _, field := range fieldsOf(e.Kind) {
				switch field {
				case "Node":
					e.Node = far()
				case "A":
					e.A = far()
				case "B":
					e.B = far()
				case "Data":
					e.Data = randomBytes(r, r.IntN(100))
				}
			}
			line, can := lineOf(e)
			if !can {
				t.Fatalf("%v can't be told", e)
			}
			lines, events = append(lines, line), append(events, e)
		}
		wantScript(t, laidOut(r, lines), events...)
	}
}

func fieldsOf(kind int) []string {
	for _, row := range modelLines {
		if row.kind == kind {
			return row.fields
		}
	}
	return nil
}

func anyInt(r *rand.Rand) int {
	return oneOf(r, 0, 0, 1, -1, 10, r.IntN(1000), int(r.Uint64()), math.MaxInt, math.MinInt)
}

func anyItem(r *rand.Rand) impl.Item {
	if r.IntN(3) == 0 {
		return impl.Item{}
	}
	return impl.Item{Client: anyInt(r), Seq: anyInt(r), Data: randomBytes(r, oneOf(r, 0, 0, 1, 5, 100))}
}

func anyReport(r *rand.Rand) impl.Report {
	out := impl.Report{Code: anyInt(r)}
	for range r.IntN(5) {
		o := impl.Obs{Code: anyInt(r), Index: anyInt(r), Item: anyItem(r), Sent: make([]impl.Message, r.IntN(3)*r.IntN(7))}
		o.View = impl.View{
			Role: anyInt(r), Term: anyInt(r), Vote: anyInt(r), Commit: anyInt(r),
			Last: anyInt(r), Snap: anyInt(r), Base: anyInt(r), Count: anyInt(r),
		}
		for range r.IntN(3) {
			o.Acks = append(o.Acks, impl.Ack{Node: anyInt(r), Client: anyInt(r), Seq: anyInt(r), Place: anyInt(r), Index: anyInt(r)})
		}
		o.Service.Base = anyInt(r)
		for range r.IntN(3) {
			o.Service.Kept = append(o.Service.Kept, anyItem(r))
		}
		for range r.IntN(3) {
			o.Service.Sessions = append(o.Service.Sessions, session(anyInt(r), anyInt(r), anyInt(r), "x"))
		}
		out.Obs = append(out.Obs, o)
	}
	return out
}

// Promise 17: reports that no run gives are told as the model tells them.
func TestTellAgainstModel(t *testing.T) {
	r := rand.New(rand.NewPCG(17, 4))
	for range 5000 {
		report := anyReport(r)
		wantText(t, "a report", impl.TellReport(report), modelTell(report))
	}
}
