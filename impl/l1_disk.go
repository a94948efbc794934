package impl

import (
	"errors"
	"slices"
	"strconv"
)

// Codes of all layers, see chapter 1.
const (
	OK           = 0
	ErrImage     = 1
	ErrName      = 2
	ErrNone      = 3
	ErrExist     = 4
	ErrRange     = 5
	ErrFull      = 6
	ErrPower     = 7
	ErrCorrupt   = 8
	ErrFailed    = 9
	ErrKind      = 10
	ErrDown      = 11
	ErrLeader    = 12
	ErrBeyond    = 13
	ErrCompacted = 14
	ErrLarge     = 15
	ErrWord      = 16
	ErrArgs      = 17
	ErrNumber    = 18
	ErrHex       = 19
)

// Limits of the file system, see chapter 1.
const (
	Sector      = 32
	MaxName     = 24
	MaxFiles    = 512
	MaxFileSize = 65536
	MaxImage    = 262144
	MaxDiskOps  = 5000
)

// Kinds of operations, see chapter 2.
const (
	DiskCreate  = 1
	DiskWrite   = 2
	DiskCut     = 3
	DiskRename  = 4
	DiskRemove  = 5
	DiskSync    = 6
	DiskSyncDir = 7
	DiskRead    = 8
	DiskCap     = 9
	DiskFuse    = 10
	DiskCrash   = 11
)

// File is a name with its bytes.
type File struct {
	Name string
	Data []byte
}

// DiskOp is one operation on a disk.
type DiskOp struct {
	Kind, A  int
	Name, To string
	Data     []byte
}

// DiskAns is the answer to one operation.
type DiskAns struct {
	Code int
	Data []byte
}

// DiskOut is what operations on a disk leave.
type DiskOut struct {
	Code         int
	Answers      []DiskAns
	Live, Synced []File
	Queue        int
}

// What an operation may be refused for; codeOf tells the code of each.
var (
	errName    = errors.New("not a good name")
	errNone    = errors.New("no such file")
	errExist   = errors.New("the name is taken")
	errRange   = errors.New("out of range")
	errFull    = errors.New("no room is left")
	errPower   = errors.New("the power is off")
	errCorrupt = errors.New("no node has left these files")
	errFailed  = errors.New("the node has failed")
	errKind    = errors.New("no such kind of operation")

	errDown      = errors.New("the node is down")
	errLeader    = errors.New("not for a node of that role")
	errBeyond    = errors.New("the place is beyond the last item")
	errCompacted = errors.New("the item isn't kept any more")
)

// refusal says which operation, on which name, was refused.
type refusal struct {
	kind  int
	name  string
	cause error
}

func (r *refusal) Error() string {
	return "operation " + strconv.Itoa(r.kind) + " on " + strconv.Quote(r.name) + ": " + r.cause.Error()
}

func (r *refusal) Unwrap() error { return r.cause }

func refuse(op DiskOp, cause error) error {
	return &refusal{kind: op.Kind, name: op.Name, cause: cause}
}

// codeOf looks for the disk's refusal under whatever it was wrapped in on its way; what no disk has refused tells its own code.
func codeOf(err error) int {
	var r *refusal
	if errors.As(err, &r) {
		err = r.cause
	}
	switch {
	case err == nil:
		return OK
	case errors.Is(err, errName):
		return ErrName
	case errors.Is(err, errNone):
		return ErrNone
	case errors.Is(err, errExist):
		return ErrExist
	case errors.Is(err, errRange):
		return ErrRange
	case errors.Is(err, errFull):
		return ErrFull
	case errors.Is(err, errPower):
		return ErrPower
	case errors.Is(err, errCorrupt):
		return ErrCorrupt
	case errors.Is(err, errFailed):
		return ErrFailed
	case errors.Is(err, errDown):
		return ErrDown
	case errors.Is(err, errLeader):
		return ErrLeader
	case errors.Is(err, errBeyond):
		return ErrBeyond
	case errors.Is(err, errCompacted):
		return ErrCompacted
	}
	return ErrKind
}

// body is what a name stands for. Both directories share it by pointer, so that renaming moves no bytes.
type body struct {
	live, synced []byte
	counted      int // the last count of live bytes that had it
}

// change is what one operation has queued. A write is one change for each of its pieces; they stand together here, since
// they are only ever synced together, and so a sync has no more to look through than there were operations.
type change interface {
	owner() *body // nil: the directory
	pieces() int
	makeSynced(names map[string]*body)
	makeKept(names map[string]*body, piece int, choice byte)
}

// writeChange has at least one byte.
type writeChange struct {
	body *body
	at   int
	data []byte
}

func (w *writeChange) owner() *body { return w.body }

func (w *writeChange) pieces() int {
	return (w.at+len(w.data)-1)/Sector - w.at/Sector + 1
}

func (w *writeChange) makeSynced(map[string]*body) {
	w.body.synced = overlay(w.body.synced, w.at, w.data)
}

func (w *writeChange) makeKept(_ map[string]*body, piece int, choice byte) {
	sector := w.at/Sector + piece
	from := max(w.at, sector*Sector)
	to := min(w.at+len(w.data), (sector+1)*Sector)
	if choice != 255 {
		to = from + int(choice)%(to-from)
	}
	if from < to {
		w.body.synced = overlay(w.body.synced, from, w.data[from-w.at:to-w.at])
	}
}

type cutChange struct {
	body   *body
	length int
}

func (c *cutChange) owner() *body { return c.body }

func (c *cutChange) pieces() int { return 1 }

// The synced bytes may be fewer than the live ones were that were cut.
func (c *cutChange) makeSynced(map[string]*body) {
	c.body.synced = c.body.synced[:min(c.length, len(c.body.synced))]
}

func (c *cutChange) makeKept(names map[string]*body, _ int, choice byte) {
	if choice%2 == 1 {
		c.makeSynced(names)
	}
}

// binding is a name and the body that it gets, nil for none.
type binding struct {
	name string
	body *body
}

type namesChange struct {
	bindings []binding
}

func (n *namesChange) owner() *body { return nil }

func (n *namesChange) pieces() int { return 1 }

func (n *namesChange) makeSynced(names map[string]*body) { bind(names, n.bindings) }

func (n *namesChange) makeKept(names map[string]*body, _ int, choice byte) {
	if choice%2 == 1 {
		n.makeSynced(names)
	}
}

func bind(names map[string]*body, bindings []binding) {
	for _, b := range bindings {
		if b.body == nil {
			delete(names, b.name)
		} else {
			names[b.name] = b.body
		}
	}
}

// overlay lays data over b, which becomes longer where it is too short; b may be changed.
func overlay(b []byte, at int, data []byte) []byte {
	if at > len(b) {
		b = append(b, make([]byte, at-len(b))...)
	}
	n := copy(b[at:], data)
	return append(b, data[n:]...)
}

const noFuse = -1

type disk struct {
	live, synced map[string]*body
	queue        []change
	capacity     int
	fuse         int
	off          bool
	counts       int // how often the live bytes were counted
}

func newDisk(image []File, capacity int) *disk {
	d := &disk{live: map[string]*body{}, synced: map[string]*body{}, capacity: boundCapacity(capacity), fuse: noFuse}
	for _, f := range image {
		b := &body{live: slices.Clone(f.Data), synced: slices.Clone(f.Data)}
		d.live[f.Name] = b
		d.synced[f.Name] = b
	}
	return d
}

func boundCapacity(n int) int { return min(max(n, 0), MaxImage) }

// do carries one operation out. The queue refers to op.Data until the disk is let go: the caller leaves them as they are.
func (d *disk) do(op DiskOp) ([]byte, error) {
	switch op.Kind {
	case DiskCap:
		d.capacity = boundCapacity(op.A)
		return nil, nil
	case DiskFuse:
		d.fuse = max(op.A, noFuse)
		return nil, nil
	case DiskCrash:
		d.crash(op.Data)
		return nil, nil
	}
	if d.off {
		return nil, refuse(op, errPower)
	}
	if op.Kind == DiskRead {
		return d.read(op)
	}
	if op.Kind < DiskCreate || op.Kind > DiskSyncDir {
		return nil, refuse(op, errKind)
	}
	return nil, d.step(op)
}

func (d *disk) read(op DiskOp) ([]byte, error) {
	b := d.live[op.Name]
	if b == nil {
		return nil, refuse(op, errNone)
	}
	return slices.Clone(b.live), nil
}

func (d *disk) step(op DiskOp) error {
	if cause := d.stepFault(op); cause != nil {
		return refuse(op, cause)
	}
	if d.fuse == 0 {
		d.off = true
		return refuse(op, errPower)
	}
	if d.fuse > 0 {
		d.fuse--
	}
	d.carryOut(op)
	return nil
}

func (d *disk) stepFault(op DiskOp) error {
	if op.Kind == DiskSyncDir {
		return nil
	}
	if op.Kind == DiskCreate {
		return d.createFault(op.Name)
	}
	b := d.live[op.Name]
	if b == nil {
		return errNone
	}
	switch op.Kind {
	case DiskWrite:
		return d.writeFault(b, op.A, len(op.Data))
	case DiskCut:
		if op.A < 0 || op.A > len(b.live) {
			return errRange
		}
	case DiskRename:
		if !goodName(op.To) {
			return errName
		}
	}
	return nil
}

func (d *disk) createFault(name string) error {
	if !goodName(name) {
		return errName
	}
	if d.live[name] != nil {
		return errExist
	}
	// A crash may keep a creation and lose a removal ahead of it: there may be more names than MaxFiles.
	if len(d.live) >= MaxFiles {
		return errFull
	}
	return nil
}

func (d *disk) writeFault(b *body, at, size int) error {
	if at < 0 || at > len(b.live) || size > MaxFileSize-at {
		return errRange
	}
	growth := max(0, at+size-len(b.live))
	if d.liveBytes()+growth > d.capacity {
		return errFull
	}
	return nil
}

// liveBytes counts a body once, though it may have two names: where a crash lost the first of two renames in a row and kept
// the second.
func (d *disk) liveBytes() int {
	d.counts++
	sum := 0
	for _, b := range d.live {
		if b.counted != d.counts {
			b.counted = d.counts
			sum += len(b.live)
		}
	}
	return sum
}

// carryOut makes a step that has no fault.
func (d *disk) carryOut(op DiskOp) {
	b := d.live[op.Name]
	switch op.Kind {
	case DiskCreate:
		d.changeNames(binding{op.Name, &body{}})
	case DiskWrite:
		d.write(b, op.A, op.Data)
	case DiskCut:
		d.cut(b, op.A)
	case DiskRename:
		if op.To != op.Name {
			d.changeNames(binding{op.To, b}, binding{op.Name, nil})
		}
	case DiskRemove:
		d.changeNames(binding{op.Name, nil})
	case DiskSync:
		d.sync(b)
	case DiskSyncDir:
		d.sync(nil)
	}
}

func (d *disk) changeNames(bindings ...binding) {
	bind(d.live, bindings)
	d.queue = append(d.queue, &namesChange{bindings})
}

func (d *disk) write(b *body, at int, data []byte) {
	if len(data) == 0 {
		return
	}
	b.live = overlay(b.live, at, data)
	d.queue = append(d.queue, &writeChange{b, at, data})
}

func (d *disk) cut(b *body, length int) {
	if length == len(b.live) {
		return
	}
	b.live = b.live[:length]
	d.queue = append(d.queue, &cutChange{b, length})
}

// sync makes what is queued for a body, or with nil for the directory, to the synced state.
func (d *disk) sync(owner *body) {
	var rest []change
	for _, c := range d.queue {
		if c.owner() == owner {
			c.makeSynced(d.synced)
		} else {
			rest = append(rest, c)
		}
	}
	d.queue = rest
}

func (d *disk) crash(choice []byte) {
	place := 0
	for _, c := range d.queue {
		for piece := range c.pieces() {
			if place < len(choice) {
				c.makeKept(d.synced, piece, choice[place])
			}
			place++
		}
	}
	d.live = map[string]*body{}
	for name, b := range d.synced {
		b.live = slices.Clone(b.synced)
		d.live[name] = b
	}
	d.queue, d.fuse, d.off = nil, noFuse, false
}

// queued counts the changes as the document does, a write by its pieces.
func (d *disk) queued() int {
	n := 0
	for _, c := range d.queue {
		n += c.pieces()
	}
	return n
}

func (d *disk) liveFiles() []File {
	var files []File
	for _, name := range sortedNames(d.live) {
		files = append(files, File{name, slices.Clone(d.live[name].live)})
	}
	return files
}

func (d *disk) syncedFiles() []File {
	var files []File
	for _, name := range sortedNames(d.synced) {
		files = append(files, File{name, slices.Clone(d.synced[name].synced)})
	}
	return files
}

func sortedNames(names map[string]*body) []string {
	var out []string
	for name := range names {
		out = append(out, name)
	}
	slices.Sort(out)
	return out
}

func goodName(name string) bool {
	if len(name) < 1 || len(name) > MaxName {
		return false
	}
	for i := range len(name) {
		c := name[i]
		if !(c >= 'a' && c <= 'z' || c >= '0' && c <= '9' || c == '.' || c == '-') {
			return false
		}
	}
	return true
}

func validImage(image []File) bool {
	if len(image) > MaxFiles {
		return false
	}
	sum := 0
	for i, f := range image {
		if !goodName(f.Name) || i > 0 && image[i-1].Name >= f.Name || len(f.Data) > MaxFileSize {
			return false
		}
		sum += len(f.Data)
	}
	return sum <= MaxImage
}

// DiskRun carries operations out on a disk, see chapter 2.
func DiskRun(image []File, capacity int, ops []DiskOp) DiskOut {
	if !validImage(image) {
		return DiskOut{Code: ErrImage}
	}
	if len(ops) > MaxDiskOps {
		return DiskOut{Code: ErrLarge}
	}
	d := newDisk(image, capacity)
	var answers []DiskAns
	for _, op := range ops {
		data, err := d.do(op)
		answers = append(answers, DiskAns{Code: codeOf(err), Data: data})
	}
	return DiskOut{Code: OK, Answers: answers, Live: d.liveFiles(), Synced: d.syncedFiles(), Queue: d.queued()}
}
