package tests

import (
	"os"
	"os/exec"
	"path/filepath"
	"strings"
	"testing"
)

// inside is a test of the package itself: no script of MaxEvents events leads a node to MaxTerm or to a snapshot whose state is none, so that
// these two edges are reached from within only.
const inside = `package impl

import "testing"

func observe(n *node, kind int) Obs {
	return n.observe(task{kind: eventKinds()[kind]})
}

func TestTimeoutAtMaxTerm(t *testing.T) {
	n := newNode(1, 3, MaxImage)
	if err := n.store.setVote(MaxTerm-1, 2); err != nil {
		t.Fatal(err)
	}
	last := View{Role: RoleCandidate, Term: MaxTerm, Vote: 1}
	if o := observe(n, EvTimeout); o.Code != OK || o.View != last || len(o.Sent) != 2 {
		t.Errorf("to the greatest term: %+v", o)
	}
	if o := observe(n, EvTimeout); o.Code != ErrRange || o.View != last || len(o.Sent) != 0 {
		t.Errorf("at the greatest term: %+v", o)
	}
	n.role = RoleLeader
	if o := observe(n, EvTimeout); o.Code != ErrLeader {
		t.Errorf("a leader of the greatest term: %+v", o)
	}
}

func TestRestartWithoutState(t *testing.T) {
	n := newNode(1, 1, MaxImage)
	observe(n, EvTimeout)
	if err := n.store.snap(1, 1, []byte("no state")); err != nil {
		t.Fatal(err)
	}
	failed := View{Role: RoleFailed}
	for range 2 {
		if o := observe(n, EvRestart); o.Code != ErrCorrupt || o.View != failed {
			t.Errorf("a restart: %+v", o)
		}
		if o := observe(n, EvTimeout); o.Code != ErrFailed || o.View != failed {
			t.Errorf("behind it: %+v", o)
		}
	}
}
`

// Promise 11: the edges that no script reaches. They are asked in a copy of the package, so that the package holds nothing but the program.
func TestClusterInside(t *testing.T) {
	layer, err := os.ReadFile("../impl/l6_cluster.go")
	if err != nil {
		t.Fatal(err)
	}
	if !strings.Contains(string(layer), "func newNode(id, nodes, capacity int) *node {") {
		t.Skip("the package has other parts inside")
	}
	dir := t.TempDir()
	if err := os.CopyFS(filepath.Join(dir, "impl"), os.DirFS("../impl")); err != nil {
		t.Fatal(err)
	}
	mod, err := os.ReadFile("../go.mod")
	if err != nil {
		t.Fatal(err)
	}
	for name, data := range map[string]string{"go.mod": string(mod), "impl/inside_test.go": inside} {
		if err := os.WriteFile(filepath.Join(dir, name), []byte(data), 0o644); err != nil {
			t.Fatal(err)
		}
	}
	run := exec.Command("go", "test", "./impl")
	run.Dir = dir
	if out, err := run.CombinedOutput(); err != nil {
		t.Errorf("%v\n%s", err, out)
	}
}
