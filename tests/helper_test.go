package tests

import (
	"fmt"
	"strings"
	"testing"

	"loop.example/s01723/impl"
)

func image(pairs ...string) []impl.File {
	var out []impl.File
	for k := 0; k < len(pairs); k += 2 {
		out = append(out, impl.File{Name: pairs[k], Data: []byte(pairs[k+1])})
	}
	return out
}

func create(name string) impl.DiskOp { return impl.DiskOp{Kind: impl.DiskCreate, Name: name} }

func write(name string, at int, data string) impl.DiskOp {
	return impl.DiskOp{Kind: impl.DiskWrite, Name: name, A: at, Data: []byte(data)}
}

func cut(name string, length int) impl.DiskOp {
	return impl.DiskOp{Kind: impl.DiskCut, Name: name, A: length}
}

func rename(name, to string) impl.DiskOp {
	return impl.DiskOp{Kind: impl.DiskRename, Name: name, To: to}
}

func remove(name string) impl.DiskOp { return impl.DiskOp{Kind: impl.DiskRemove, Name: name} }

func sync(name string) impl.DiskOp { return impl.DiskOp{Kind: impl.DiskSync, Name: name} }

func syncDir() impl.DiskOp { return impl.DiskOp{Kind: impl.DiskSyncDir} }

func read(name string) impl.DiskOp { return impl.DiskOp{Kind: impl.DiskRead, Name: name} }

func capacity(n int) impl.DiskOp { return impl.DiskOp{Kind: impl.DiskCap, A: n} }

func fuse(n int) impl.DiskOp { return impl.DiskOp{Kind: impl.DiskFuse, A: n} }

func crash(choice ...byte) impl.DiskOp {
	return impl.DiskOp{Kind: impl.DiskCrash, Data: choice}
}

// tellFiles and tellOut write nil and empty lists alike, as rule 2 of chapter 1 asks.
func tellFiles(files []impl.File) string {
	var s strings.Builder
	for _, f := range files {
		fmt.Fprintf(&s, "%q=%x ", f.Name, f.Data)
	}
	return s.String()
}

func tellOut(out impl.DiskOut) string {
	var s strings.Builder
	fmt.Fprintf(&s, "code %d\n", out.Code)
	for k, a := range out.Answers {
		fmt.Fprintf(&s, "answer %d: %d %x\n", k, a.Code, a.Data)
	}
	fmt.Fprintf(&s, "live %s\nsynced %s\nqueue %d", tellFiles(out.Live), tellFiles(out.Synced), out.Queue)
	return s.String()
}

func wantFiles(t *testing.T, what string, got, want []impl.File) {
	t.Helper()
	if tellFiles(got) != tellFiles(want) {
		t.Errorf("%s: %s, want %s", what, tellFiles(got), tellFiles(want))
	}
}

func wantCodes(t *testing.T, out impl.DiskOut, codes ...int) {
	t.Helper()
	if out.Code != impl.OK || len(out.Answers) != len(codes) {
		t.Fatalf("code %d with %d answers, want %d", out.Code, len(out.Answers), len(codes))
	}
	for k, c := range codes {
		if out.Answers[k].Code != c {
			t.Errorf("operation %d: code %d, want %d", k, out.Answers[k].Code, c)
		}
		if c != impl.OK && len(out.Answers[k].Data) != 0 {
			t.Errorf("operation %d: data beside code %d", k, c)
		}
	}
}
