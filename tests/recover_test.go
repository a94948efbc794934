package tests

import (
	"fmt"
	"strings"
	"testing"

	"loop.example/s01723/impl"
)

func TestRecoverNothing(t *testing.T) {
	first := image(wal(1), head(1, 1, 0))
	wantRecovered(t, "nothing", nil, impl.Stable{}, first)
	wantRecovered(t, "what that left", first, impl.Stable{}, first)
	wantRecovered(t, "meta alone", image("meta", meta(3, 2)), stable(3, 2, 0, 0, ""), image("meta", meta(3, 2), wal(1), head(1, 1, 0)))
}

// Promise 5: the file meta is one right record and nothing else.
func TestRecoverMeta(t *testing.T) {
	for _, c := range []struct{ term, vote int }{{0, 0}, {0, 7}, {impl.MaxTerm, 0}, {impl.MaxTerm, 7}} {
		wantRecovered(t, "meta", image("meta", meta(c.term, c.vote)), stable(c.term, c.vote, 0, 0, ""), image("meta", meta(c.term, c.vote), wal(1), head(1, 1, 0)))
	}
	for what, data := range map[string]string{
		"empty": "", "a term beyond": meta(impl.MaxTerm+1, 0), "a vote beyond": meta(1, 8), "a negative term": meta(-1, 0), "a negative vote": meta(1, -1),
		"two records": meta(1, 1) + meta(1, 1), "a byte behind": meta(1, 1) + "\x00", "torn": meta(1, 1)[:27], "another type": rec(impl.RecReset, "", 1, 1),
		"a byte more": rec(impl.RecMeta, "x", 1, 1), "one number": rec(impl.RecMeta, "", 1), "three numbers": rec(impl.RecMeta, "", 1, 1, 1),
		"a changed byte": strings.Replace(meta(1, 1), "\x01", "\x02", 1), "a bad one behind": meta(1, 1) + "abc",
	} {
		wantCorrupt(t, "meta: "+what, sorted("meta", data))
	}
}

// snapAt is a directory with a snapshot.
func snapAt(manifestData, name, data string, more ...string) []impl.File {
	return sorted(append([]string{"meta", meta(impl.MaxTerm, 0), "manifest", manifestData, name, data}, more...)...)
}

// Promise 5: the manifest and the snapshot that it names are one right record each.
func TestRecoverSnap(t *testing.T) {
	for _, c := range []struct {
		index, term int
		state       string
	}{{1, 0, ""}, {5, 7, "state"}, {impl.MaxIndex, impl.MaxTerm, strings.Repeat("s", impl.MaxState)}} {
		from := snapAt(manifest(c.index), snapFile(c.index), snapRec(c.index, c.term, c.state))
		behind := snapAt(manifest(c.index), snapFile(c.index), snapRec(c.index, c.term, c.state), wal(1), head(1, c.index+1, c.term))
		wantRecovered(t, fmt.Sprint("snapshot ", c.index), from, stable(impl.MaxTerm, 0, c.index, c.term, c.state), behind)
	}
	good := snapRec(5, 7, "state")
	for what, m := range map[string]string{
		"empty": "", "index 0": manifest(0), "another index": manifest(6), "an index beyond": manifest(impl.MaxIndex + 1), "a negative index": manifest(-1), "two records": manifest(5) + manifest(5),
		"a byte behind": manifest(5) + "\x00", "torn": manifest(5)[:19], "another type": rec(8, "", 5), "two numbers": rec(impl.RecManifest, "", 5, 0), "a byte more": rec(impl.RecManifest, "x", 5), "no number": rec(impl.RecManifest, ""),
	} {
		wantCorrupt(t, "manifest: "+what, snapAt(m, snapFile(5), good))
	}
	wantCorrupt(t, "index 0 with a file", snapAt(manifest(0), snapFile(0), good))
	for what, s := range map[string]string{
		"empty": "", "another index": snapRec(6, 7, "state"), "index 0": snapRec(0, 7, "state"), "a term beyond": snapRec(5, impl.MaxTerm+1, ""), "a negative term": snapRec(5, -1, ""),
		"two records": good + good, "a byte behind": good + "\x00", "torn": good[:len(good)-1], "another type": entry(5, 7, "state"), "too much state": snapRec(5, 7, strings.Repeat("s", impl.MaxState+1)), "one number": rec(impl.RecSnap, "1234567", 5),
	} {
		wantCorrupt(t, "snapshot: "+what, snapAt(manifest(5), snapFile(5), s))
	}
	wantCorrupt(t, "no snapshot file", sorted("manifest", manifest(5)))
	wantCorrupt(t, "the snapshot file of another name", snapAt(manifest(5), "snap0000005", good))
}

// Promise 5: the log must be one that goes with what meta and the manifest say.
func TestRecoverStrangers(t *testing.T) {
	log := head(1, 4, 2) + entry(4, 3, "a")
	with := func(term, index, snapTerm int, log string) []impl.File {
		pairs := []string{"meta", meta(term, 0), wal(1), log}
		if index > 0 {
			pairs = append(pairs, "manifest", manifest(index), snapFile(index), snapRec(index, snapTerm, ""))
		}
		return sorted(pairs...)
	}
	wantRecovered(t, "all in order", with(3, 3, 2, log), stable(3, 0, 3, 2, "", 3, "a"), with(3, 3, 2, log))
	wantCorrupt(t, "a snapshot ahead of the log", with(3, 2, 2, log))
	wantCorrupt(t, "no snapshot and a log that begins behind one", with(3, 0, 0, log))
	wantCorrupt(t, "a log of a greater term", with(2, 3, 2, log))
	wantCorrupt(t, "a base of a greater term", with(1, 3, 1, head(1, 4, 2)))
	wantCorrupt(t, "a snapshot of a greater term", with(3, 3, 4, log))
	wantCorrupt(t, "a log without meta", image(wal(1), head(1, 1, 0)+entry(1, 1, "a")))
	wantCorrupt(t, "a corrupt log", with(3, 3, 2, log+entry(6, 3, "b")))
	wantCorrupt(t, "a gap", sorted(wal(1), head(1, 1, 0), wal(3), head(3, 1, 0)))
	wantRecovered(t, "a greater term that was cut again", with(2, 3, 2, log+cutRec(4, 2)), stable(2, 0, 3, 2, ""), with(2, 3, 2, log+cutRec(4, 2)))
	wantRecovered(t, "term 0 in all", image(wal(1), head(1, 1, 0)+entry(1, 0, "a")), stable(0, 0, 0, 0, "", 0, "a"), image(wal(1), head(1, 1, 0)+entry(1, 0, "a")))
}

// Promise 5: what was on its way goes, and all snapshots but the live one; other files stay.
func TestRecoverStale(t *testing.T) {
	log := head(1, 6, 2)
	live := []string{"meta", meta(2, 0), "manifest", manifest(5), snapFile(5), snapRec(5, 2, "S"), wal(1), log}
	others := []string{"a", "1", "snap", "2", "snap0000005", "3", "snap000000005", "4", "snap0000000a", "5", wal(0), "6", "tmp", "7", "x.tmp.", "8", "x.tmpx", "9"}
	stale := []string{".tmp", "a", "meta.tmp", "b", "manifest.tmp", "", "wal00000001.tmp", "c", "snap00000005.tmp", "d", snapFile(0), "e", snapFile(4), "", snapFile(6), "f", snapFile(99999999), "g"}
	kept := append(append([]string{}, live...), others...)
	wantRecovered(t, "stale files", sorted(append(append([]string{}, kept...), stale...)...), stable(2, 0, 5, 2, "S"), sorted(kept...))
	without := []string{"meta", meta(2, 0), wal(1), head(1, 1, 0)}
	wantRecovered(t, "no manifest", sorted(append(append([]string{}, without...), stale...)...), stable(2, 0, 0, 0, ""), sorted(without...))
}

// Promise 5: what is behind the last right record goes.
func TestRecoverTrims(t *testing.T) {
	a, two := head(1, 1, 0)+entry(1, 1, "a"), head(2, 2, 1)+entry(2, 1, "b")
	with := func(pairs ...string) []impl.File { return sorted(append([]string{"meta", meta(1, 0)}, pairs...)...) }
	one, both := stable(1, 0, 0, 0, "", 1, "a"), stable(1, 0, 0, 0, "", 1, "a", 1, "b")
	wantRecovered(t, "bytes behind", with(wal(1), a+"\x00\x00"), one, with(wal(1), a))
	wantRecovered(t, "a torn entry", with(wal(1), a+entry(2, 1, "b")[:30]), one, with(wal(1), a))
	wantRecovered(t, "a whole entry behind a torn one", with(wal(1), a+entry(2, 1, "b")[:28]+entry(2, 1, "b")), one, with(wal(1), a))
	wantRecovered(t, "an empty last one", with(wal(1), a, wal(2), ""), one, with(wal(1), a))
	wantRecovered(t, "a torn head", with(wal(1), a, wal(2), two[:35]), one, with(wal(1), a))
	wantRecovered(t, "a dropped one behind a torn one", with(wal(1), a+"abc", wal(2), two[:35]), one, with(wal(1), a))
	wantRecovered(t, "a torn one behind a whole one", with(wal(1), a, wal(2), two+"abc"), both, with(wal(1), a, wal(2), two))
	wantRecovered(t, "the only one is dropped", with(wal(7), "abc"), stable(1, 0, 0, 0, ""), with(wal(1), head(1, 1, 0)))
	wantCorrupt(t, "two that tell nothing", with(wal(1), a, wal(2), "", wal(3), ""))
}

// longLog is a log of five entries and 256 bytes, all of term 1.
func longLog() string {
	s := head(1, 1, 0)
	for k, d := range entriesOf(5) {
		s += entry(k+1, 1, d)
	}
	return s
}

// Promise 5: the log is put behind the snapshot.
func TestRecoverReset(t *testing.T) {
	short := head(1, 1, 0) + entry(1, 1, "a") + entry(2, 2, "b")
	with := func(index, term int, pairs ...string) []impl.File {
		return sorted(append([]string{"meta", meta(3, 0), "manifest", manifest(index), snapFile(index), snapRec(index, term, "S")}, pairs...)...)
	}
	for _, c := range []struct {
		what        string
		index, term int
		behind      string
		stay        []any
	}{
		{"within", 1, 1, "", []any{2, "b"}},
		{"at the last", 2, 2, "", nil},
		{"beyond", 3, 2, resetRec(3, 2), nil},
		{"another term", 1, 2, resetRec(1, 2), nil},
		{"another term at the last", 2, 1, resetRec(2, 1), nil},
	} {
		wantRecovered(t, c.what, with(c.index, c.term, wal(1), short), stable(3, 0, c.index, c.term, "S", c.stay...), with(c.index, c.term, wal(1), short+c.behind))
	}
	wantRecovered(t, "a log that rolls", with(4, 2, wal(1), longLog()), stable(3, 0, 4, 2, "S"), with(4, 2, wal(1), longLog(), wal(2), head(2, 6, 1)+resetRec(4, 2)))
	wantRecovered(t, "a log that rolls and lets go", with(5, 2, wal(1), longLog()), stable(3, 0, 5, 2, "S"), with(5, 2, wal(2), head(2, 6, 1)+resetRec(5, 2)))
	wantRecovered(t, "a log that rolls far ahead", with(50, 2, wal(1), longLog()), stable(3, 0, 50, 2, "S"), with(50, 2, wal(2), head(2, 6, 1)+resetRec(50, 2)))
	// What is cut off counts no more when the log's size is asked for.
	torn := longLog()[:255]
	kept := longLog()[:212]
	wantRecovered(t, "a torn log doesn't roll", with(9, 2, wal(1), torn), stable(3, 0, 9, 2, "S"), with(9, 2, wal(1), kept+resetRec(9, 2)))
	wantRecovered(t, "a base of another term", sorted("meta", meta(3, 0), wal(1), head(1, 1, 2)+entry(1, 2, "a")), stable(3, 0, 0, 0, ""), sorted("meta", meta(3, 0), wal(1), head(1, 1, 2)+entry(1, 2, "a")+resetRec(0, 0)))
}

// Promise 5: old segments go in recovery too.
func TestRecoverOldSegments(t *testing.T) {
	two, three := head(2, 6, 1)+entry(6, 1, "b"), head(3, 7, 1)+entry(7, 2, "c")
	with := func(index, term int, pairs ...string) []impl.File {
		return sorted(append([]string{"meta", meta(3, 0), "manifest", manifest(index), snapFile(index), snapRec(index, term, "S")}, pairs...)...)
	}
	all := []string{wal(1), longLog(), wal(2), two, wal(3), three}
	wantRecovered(t, "all stay", with(4, 1, all...), stable(3, 0, 4, 1, "S", 1, entriesOf(1)[0], 1, "b", 2, "c"), with(4, 1, all...))
	wantRecovered(t, "one goes", with(5, 1, all...), stable(3, 0, 5, 1, "S", 1, "b", 2, "c"), with(5, 1, all[2:]...))
	wantRecovered(t, "two go", with(6, 1, all...), stable(3, 0, 6, 1, "S", 2, "c"), with(6, 1, all[4:]...))
	wantRecovered(t, "the last one stays", with(7, 2, all...), stable(3, 0, 7, 2, "S"), with(7, 2, all[4:]...))
	// The second one begins behind the third: as long as it stays the third does.
	low := head(3, 3, 1) + entry(3, 1, "x")
	mixed := []string{wal(1), longLog(), wal(2), two + cutRec(3, 1), wal(3), low}
	wantRecovered(t, "a second one that begins late", with(2, 1, mixed...), stable(3, 0, 2, 1, "S", 1, "x"), with(2, 1, mixed...))
	cleared := head(1, 1, 0) + entry(1, 1, "a") + cutRec(1, 0)
	wantRecovered(t, "without a snapshot", sorted("meta", meta(3, 0), wal(1), cleared, wal(2), head(2, 1, 0)+entry(1, 2, "b")), stable(3, 0, 0, 0, "", 2, "b"), sorted("meta", meta(3, 0), wal(2), head(2, 1, 0)+entry(1, 2, "b")))
}

// filler has files that have nothing to do with the node: count of them, with bytes in all.
func filler(count, bytes int) []string {
	var out []string
	for k := range count {
		n := min(bytes, impl.MaxFileSize)
		bytes -= n
		out = append(out, fmt.Sprintf("fill%d", k), strings.Repeat("f", n))
	}
	return out
}

// Promise 5: a disk without room refuses recovery's steps.
func TestRecoverFull(t *testing.T) {
	wantRecovered(t, "room for one name", sorted(filler(511, 0)...), impl.Stable{}, sorted(append(filler(511, 0), wal(1), head(1, 1, 0))...))
	wantRecovered(t, "room for 36 bytes", sorted(filler(5, impl.MaxImage-36)...), impl.Stable{}, sorted(append(filler(5, impl.MaxImage-36), wal(1), head(1, 1, 0))...))
	for what, files := range map[string][]impl.File{"no name": sorted(filler(512, 0)...), "no byte": sorted(filler(5, impl.MaxImage)...), "35 bytes": sorted(filler(5, impl.MaxImage-35)...)} {
		if st, left, code := impl.Recover(files); code != impl.ErrFull || len(left) != 0 || tellStable(st) != tellStable(impl.Stable{}) {
			t.Errorf("%s: %d", what, code)
		}
	}
	// A file that goes makes room for the name that comes.
	wantRecovered(t, "a stale name", sorted(append(filler(511, 0), "x.tmp", "")...), impl.Stable{}, sorted(append(filler(511, 0), wal(1), head(1, 1, 0))...))
}
