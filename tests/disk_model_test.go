package tests

import (
	"slices"

	"loop.example/s01723/impl"
)

// modelDisk says what chapter 2 says, in its own terms and without any care for speed: each piece is queued by itself, and
// bodies are numbers.
type modelDisk struct {
	live, synced     map[int][]byte
	liveDir, syncDir map[string]int
	queue            []modelChange
	bodies           int
	capacity, fuse   int
	off              bool
}

type modelChange struct {
	kind  byte // w, c, d
	body  int
	at    int
	data  []byte
	gets  string // with d: the name that gets the body
	loses string // with d: the name that gets none
}

func modelBound(n int) int {
	if n < 0 {
		return 0
	}
	if n > impl.MaxImage {
		return impl.MaxImage
	}
	return n
}

func newModelDisk(files []impl.File, capacity int) *modelDisk {
	d := &modelDisk{live: map[int][]byte{}, synced: map[int][]byte{}, liveDir: map[string]int{}, syncDir: map[string]int{}, capacity: modelBound(capacity), fuse: -1}
	for _, f := range files {
		d.bodies++
		d.live[d.bodies], d.synced[d.bodies] = slices.Clone(f.Data), slices.Clone(f.Data)
		d.liveDir[f.Name], d.syncDir[f.Name] = d.bodies, d.bodies
	}
	return d
}

func modelWrite(old []byte, at int, data []byte) []byte {
	out := make([]byte, max(len(old), at+len(data)))
	copy(out, old)
	copy(out[at:], data)
	return out
}

func (d *modelDisk) makeSynced(c modelChange) {
	switch c.kind {
	case 'w':
		d.synced[c.body] = modelWrite(d.synced[c.body], c.at, c.data)
	case 'c':
		if c.at < len(d.synced[c.body]) {
			d.synced[c.body] = slices.Clone(d.synced[c.body][:c.at])
		}
	case 'd':
		if c.gets != "" {
			d.syncDir[c.gets] = c.body
		}
		if c.loses != "" {
			delete(d.syncDir, c.loses)
		}
	}
}

func (d *modelDisk) crash(choice []byte) {
	for i, c := range d.queue {
		b := byte(0)
		if i < len(choice) {
			b = choice[i]
		}
		switch {
		case b == 0:
		case b == 255:
			d.makeSynced(c)
		case c.kind == 'w':
			c.data = c.data[:int(b)%len(c.data)]
			if len(c.data) > 0 {
				d.makeSynced(c)
			}
		case b&1 == 1:
			d.makeSynced(c)
		}
	}
	d.queue, d.fuse, d.off = nil, -1, false
	d.live, d.liveDir = map[int][]byte{}, map[string]int{}
	kept := map[int][]byte{}
	for n, b := range d.syncDir {
		d.liveDir[n] = b
		kept[b] = d.synced[b]
		d.live[b] = slices.Clone(d.synced[b])
	}
	d.synced = kept
}

func (d *modelDisk) sync(mine func(modelChange) bool) {
	var rest []modelChange
	for _, c := range d.queue {
		if mine(c) {
			d.makeSynced(c)
		} else {
			rest = append(rest, c)
		}
	}
	d.queue = rest
}

func modelGoodName(n string) bool {
	for _, c := range []byte(n) {
		if !slices.Contains([]byte("abcdefghijklmnopqrstuvwxyz0123456789.-"), c) {
			return false
		}
	}
	return len(n) >= 1 && len(n) <= 24
}

func (d *modelDisk) used() int {
	named := map[int]int{}
	for _, b := range d.liveDir {
		named[b] = len(d.live[b])
	}
	sum := 0
	for _, n := range named {
		sum += n
	}
	return sum
}

func (d *modelDisk) fault(op impl.DiskOp) int {
	b, there := d.liveDir[op.Name]
	switch {
	case op.Kind == 7:
		return 0
	case op.Kind == 1 && !modelGoodName(op.Name):
		return impl.ErrName
	case op.Kind == 1 && there:
		return impl.ErrExist
	case op.Kind == 1 && len(d.liveDir) >= 512:
		return impl.ErrFull
	case op.Kind == 1:
		return 0
	case !there:
		return impl.ErrNone
	case (op.Kind == 2 || op.Kind == 3) && (op.A < 0 || op.A > len(d.live[b])):
		return impl.ErrRange
	case op.Kind == 2 && op.A+len(op.Data) > 65536:
		return impl.ErrRange
	case op.Kind == 2 && d.used()-len(d.live[b])+max(len(d.live[b]), op.A+len(op.Data)) > d.capacity:
		return impl.ErrFull
	case op.Kind == 4 && !modelGoodName(op.To):
		return impl.ErrName
	}
	return 0
}

func (d *modelDisk) carryOut(op impl.DiskOp) {
	b := d.liveDir[op.Name]
	switch op.Kind {
	case 1:
		d.bodies++
		d.live[d.bodies], d.synced[d.bodies] = nil, nil
		d.liveDir[op.Name] = d.bodies
		d.queue = append(d.queue, modelChange{kind: 'd', body: d.bodies, gets: op.Name})
	case 2:
		d.live[b] = modelWrite(d.live[b], op.A, op.Data)
		var piece []byte
		for i, c := range op.Data {
			piece = append(piece, c)
			if next := op.A + i + 1; next%32 == 0 || i == len(op.Data)-1 {
				d.queue = append(d.queue, modelChange{kind: 'w', body: b, at: next - len(piece), data: piece})
				piece = nil
			}
		}
	case 3:
		if op.A != len(d.live[b]) {
			d.live[b] = slices.Clone(d.live[b][:op.A])
			d.queue = append(d.queue, modelChange{kind: 'c', body: b, at: op.A})
		}
	case 4:
		if op.Name != op.To {
			d.liveDir[op.To] = b
			delete(d.liveDir, op.Name)
			d.queue = append(d.queue, modelChange{kind: 'd', body: b, gets: op.To, loses: op.Name})
		}
	case 5:
		delete(d.liveDir, op.Name)
		d.queue = append(d.queue, modelChange{kind: 'd', loses: op.Name})
	case 6:
		d.sync(func(c modelChange) bool { return c.kind != 'd' && c.body == b })
	case 7:
		d.sync(func(c modelChange) bool { return c.kind == 'd' })
	}
}

func (d *modelDisk) do(op impl.DiskOp) impl.DiskAns {
	switch {
	case op.Kind == 9:
		d.capacity = modelBound(op.A)
	case op.Kind == 10:
		d.fuse = max(-1, op.A)
	case op.Kind == 11:
		d.crash(op.Data)
	case d.off:
		return impl.DiskAns{Code: impl.ErrPower}
	case op.Kind < 1 || op.Kind > 8:
		return impl.DiskAns{Code: impl.ErrKind}
	case op.Kind == 8:
		b, there := d.liveDir[op.Name]
		if !there {
			return impl.DiskAns{Code: impl.ErrNone}
		}
		return impl.DiskAns{Data: slices.Clone(d.live[b])}
	default:
		if code := d.fault(op); code != 0 {
			return impl.DiskAns{Code: code}
		}
		if d.fuse == 0 {
			d.off = true
			return impl.DiskAns{Code: impl.ErrPower}
		}
		if d.fuse > 0 {
			d.fuse--
		}
		d.carryOut(op)
	}
	return impl.DiskAns{}
}

func modelFiles(dir map[string]int, bodies map[int][]byte) []impl.File {
	var out []impl.File
	for n, b := range dir {
		out = append(out, impl.File{Name: n, Data: bodies[b]})
	}
	slices.SortFunc(out, func(a, b impl.File) int {
		if a.Name < b.Name {
			return -1
		}
		return 1
	})
	return out
}

// modelRun is DiskRun for a valid image and not too many operations.
func modelRun(files []impl.File, capacity int, ops []impl.DiskOp) impl.DiskOut {
	d := newModelDisk(files, capacity)
	out := impl.DiskOut{}
	for _, op := range ops {
		out.Answers = append(out.Answers, d.do(op))
	}
	out.Live, out.Synced = modelFiles(d.liveDir, d.live), modelFiles(d.syncDir, d.synced)
	out.Queue = len(d.queue)
	return out
}
