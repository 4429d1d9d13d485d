package area_test

import (
	"bytes"
	"math"
	"slices"
	"testing"

	"tompion/api"
	"tompion/area"
	"tompion/disk"
	"tompion/seal"
)

const (
	least = math.MinInt
	most  = math.MaxInt
	size  = api.Sector
)

// all is a sector of one byte.
func all(c byte) [size]byte {
	return [size]byte(bytes.Repeat([]byte{c}, size))
}

// lot draws numbers that are the same at each run.
type lot uint64

func (l *lot) below(n int) int {
	*l = *l*6364136223846793005 + 1442695040888963407
	return int(uint64(*l)>>33) % n
}

func (l *lot) bytes(many int) []byte {
	b := make([]byte, many)
	for at := range b {
		b[at] = byte(l.below(256))
	}
	return b
}

func (l *lot) sector() [size]byte {
	return [size]byte(l.bytes(size))
}

// mustMake is a disk that there must be.
func mustMake(t *testing.T, sectors, room int) *disk.Disk {
	t.Helper()
	d, e := disk.New(sectors, room)
	if e != api.OK {
		t.Fatalf("disk.New(%d, %d): error %d", sectors, room, e)
	}
	return d
}

// mustLoad is a disk that there must be, of an image.
func mustLoad(t *testing.T, image []byte, sectors, room int) *disk.Disk {
	t.Helper()
	d, e := disk.Load(image, sectors, room)
	if e != api.OK {
		t.Fatalf("disk.Load(%d bytes, %d, %d): error %d", len(image), sectors, room, e)
	}
	return d
}

// mustHave is an area that there must be.
func mustHave(t *testing.T, d *disk.Disk, s api.Span) *area.Area {
	t.Helper()
	a, e := area.New(d, s)
	if e != api.OK || a == nil || a.Many() != s.Many {
		t.Fatalf("New(%d sectors, %v) = %v, %d, of %d", d.Size(), s, a, e, a.Many())
	}
	return a
}

// mustPlan is a plan that there must be.
func mustPlan(t *testing.T, sectors int) api.Plan {
	t.Helper()
	p, e := area.Plan(sectors)
	if e != api.OK {
		t.Fatalf("Plan(%d): error %d", sectors, e)
	}
	return p
}

// mustSay holds an error's number.
func mustSay(t *testing.T, what string, got, want api.Errno) {
	t.Helper()
	if got != want {
		t.Fatalf("%s: error %d, not %d", what, got, want)
	}
}

// mustRead holds what is read of an area's sector.
func mustRead(t *testing.T, a *area.Area, n int, want [size]byte) {
	t.Helper()
	if b, e := a.Read(n); e != api.OK || b != want {
		t.Fatalf("Read(%d) = %x, %d, not %x", n, b, e, want)
	}
}

// mustTake holds what is taken of an area's sector.
func mustTake(t *testing.T, a *area.Area, n, kind, number int, load []byte) {
	t.Helper()
	m, l, e := a.Take(n, kind)
	if e != api.OK || m != number || !bytes.Equal(l, load) {
		t.Fatalf("Take(%d, %d) = %d, %x, %d, not %d, %x", n, kind, m, l, e, number, load)
	}
}

// mustNotTake holds why nothing is taken.
func mustNotTake(t *testing.T, a *area.Area, n, kind int, want api.Errno) {
	t.Helper()
	if m, l, e := a.Take(n, kind); e != want || m != 0 || len(l) != 0 {
		t.Fatalf("Take(%d, %d) = %d, %x, %d, not %d", n, kind, m, l, e, want)
	}
}

// sealed is what Put has to write.
func sealed(t *testing.T, kind, number int, load []byte) [size]byte {
	t.Helper()
	b, e := seal.Make(kind, number, load)
	if e != api.OK {
		t.Fatalf("seal.Make(%d, %d, %x): error %d", kind, number, load, e)
	}
	return b
}

// parts are a plan's, in the order in which they stand on the disk.
func parts(p api.Plan) []api.Span {
	return []api.Span{p.Root, p.Left, p.Right, p.Log, p.Sink}
}

// P8.1: the plan.

// The chapter's example.
func TestExample(t *testing.T) {
	p := mustPlan(t, 15)
	if p.Log != (api.Span{First: 11, Many: 2}) || p.Sink != (api.Span{First: 13, Many: 2}) {
		t.Fatal(p)
	}
}

func TestPlan(t *testing.T) {
	for _, c := range []struct{ sectors, many int }{
		{13, 1}, {14, 1}, {15, 2}, {16, 2}, {17, 3}, {1000, 494}, {2056, 1022}, {2057, 1023}, {2058, 1023},
		{2059, 1024}, {2060, 1024}, {2061, 1024}, {3000, 1024}, {4095, 1024}, {4096, 1024},
	} {
		p := mustPlan(t, c.sectors)
		want := api.Plan{
			Root:  api.Span{First: 0, Many: 1},
			Left:  api.Span{First: 1, Many: 5},
			Right: api.Span{First: 6, Many: 5},
			Log:   api.Span{First: 11, Many: c.many},
			Sink:  api.Span{First: 11 + c.many, Many: c.many},
		}
		if p != want {
			t.Errorf("Plan(%d) = %v, not %v", c.sectors, p, want)
		}
	}
}

// Each part begins where the one ahead ends, and none ends beyond the disk; the log is as long as the sink, and neither could be longer.
func TestEachPlan(t *testing.T) {
	for sectors := 13; sectors <= api.MaxSectors; sectors++ {
		p := mustPlan(t, sectors)
		end := 0
		for _, s := range parts(p) {
			if s.First != end || s.Many < 1 {
				t.Fatalf("Plan(%d) = %v: a part doesn't begin at %d", sectors, p, end)
			}
			end += s.Many
		}
		if p.Root.Many != 1 || p.Left.Many != 5 || p.Right.Many != 5 || p.Log.Many != p.Sink.Many {
			t.Fatalf("Plan(%d) = %v", sectors, p)
		}
		if end > sectors || p.Log.Many > api.MaxRecords {
			t.Fatalf("Plan(%d) = %v: it is too long", sectors, p)
		}
		if end+2 <= sectors && p.Log.Many < api.MaxRecords {
			t.Fatalf("Plan(%d) = %v: there is room for more", sectors, p)
		}
	}
}

func TestNoPlan(t *testing.T) {
	l := []int{4097, 4098, 8192, 1 << 16, 1<<16 + 13, 1<<32 + 13, 1<<32 + 4096, 1<<62 + 13, most - 12, most - 1, most}
	for sectors := -30; sectors <= 12; sectors++ {
		l = append(l, sectors)
	}
	for more := range 40 { // what a difference that goes round would take for many
		l = append(l, least+more)
	}
	l = append(l, -4096, -1<<16+13, -1<<32+13, -1<<62+13)
	for _, sectors := range l {
		if p, e := area.Plan(sectors); e != api.ErrArg || p != (api.Plan{}) {
			t.Errorf("Plan(%d) = %v, %d", sectors, p, e)
		}
	}
}

// P8.1: which areas there are.

// may is whether a disk of so many sectors has all of a span.
func may(sectors int, s api.Span) bool {
	return s.Many >= 1 && s.Many <= sectors && s.First >= 0 && s.First < sectors && s.First+s.Many <= sectors
}

// mustBeAsItMay holds whether there is an area, and how many sectors it has; and that making it does nothing with the disk.
func mustBeAsItMay(t *testing.T, d *disk.Disk, s api.Span) {
	t.Helper()
	a, e := area.New(d, s)
	if may(d.Size(), s) {
		if e != api.OK || a == nil || a.Many() != s.Many {
			t.Fatalf("New(%d sectors, %v) = %v, %d, of %d", d.Size(), s, a, e, a.Many())
		}
	} else if e != api.ErrArg || a != nil {
		t.Fatalf("New(%d sectors, %v) = %v, %d", d.Size(), s, a, e)
	}
	if slices.Max(d.Meter().All()) > 0 || d.Waits() > 0 || d.Left() != d.Size() {
		t.Fatalf("New(%d sectors, %v) did something with the disk", d.Size(), s)
	}
}

func TestNew(t *testing.T) {
	for _, sectors := range []int{1, 2, 3, 7, 15} {
		d := mustMake(t, sectors, sectors)
		for first := -3; first <= sectors+3; first++ {
			for many := -3; many <= sectors+3; many++ {
				mustBeAsItMay(t, d, api.Span{First: first, Many: many})
			}
		}
	}
}

func TestNewOfGreatNumbers(t *testing.T) {
	for _, sectors := range []int{1, 5, 300, api.MaxSectors} {
		d := mustMake(t, sectors, sectors)
		l := []int{0, 1, sectors / 2, 1<<31 - 1, most - sectors, most - sectors + 1, least + sectors, least + sectors - 1}
		for more := range 3 {
			l = append(l, sectors-more, sectors+more, -more, least+more, most-more, 1<<62+more)
		}
		for _, k := range []int{8, 16, 31, 32, 62} { // what would be right, if a number lost some bits
			l = append(l, 1<<k, -1<<k, 1<<k+1, 1<<k+sectors-1, -1<<k+sectors-1)
		}
		for _, first := range l {
			for _, many := range l {
				mustBeAsItMay(t, d, api.Span{First: first, Many: many})
			}
		}
	}
}

// That the disk is none comes ahead of what the span is.
func TestNewOfNoDisk(t *testing.T) {
	for _, d := range []*disk.Disk{nil, {}, new(disk.Disk)} {
		for _, first := range []int{0, 1, -1, least, most} {
			for _, many := range []int{0, 1, -1, least, most} {
				if a, e := area.New(d, api.Span{First: first, Many: many}); a != nil || e != api.ErrNil {
					t.Fatalf("New of no disk, from %d on %d = %v, %d", first, many, a, e)
				}
			}
		}
	}
}

// The chapter names no other error: a disk has its sectors with the power off, too.
func TestNewWithThePowerOff(t *testing.T) {
	d := mustMake(t, 4, 4)
	d.Cut(0)
	mustSay(t, "Flush", d.Flush(), api.ErrPower)
	mustHave(t, d, api.Span{First: 1, Many: 3})
	if a, e := area.New(d, api.Span{First: 1, Many: 4}); a != nil || e != api.ErrArg {
		t.Fatal(a, e)
	}
}

// P8.2: an area by the chapter's words, of a disk of its own. Both disks are given the same, and must be alike behind it.

type said struct {
	d *disk.Disk
	s api.Span
}

func (a said) has(n int) bool {
	return n >= 0 && n < a.s.Many
}

func (a said) read(n int) ([size]byte, api.Errno) {
	if !a.has(n) {
		return [size]byte{}, api.ErrRange
	}
	return a.d.Read(a.s.First + n)
}

func (a said) write(n int, b [size]byte) api.Errno {
	if !a.has(n) {
		return api.ErrRange
	}
	return a.d.Write(a.s.First+n, b)
}

func (a said) put(n, kind, number int, load []byte) api.Errno {
	b, e := seal.Make(kind, number, load)
	if e != api.OK {
		return e
	}
	return a.write(n, b)
}

func (a said) take(n, kind int) (number int, load []byte, e api.Errno) {
	b, e := a.read(n)
	if e != api.OK {
		return 0, nil, e
	}
	return seal.Open(b, kind)
}

// pair is an area, and the same one by the words.
type pair struct {
	a *area.Area
	w said
	d *disk.Disk // of the area
}

// mustPair is an area on each of two disks that are alike.
func mustPair(t *testing.T, d, other *disk.Disk, s api.Span) pair {
	t.Helper()
	return pair{mustHave(t, d, s), said{other, s}, d}
}

// mustBeAlike holds all that the disks tell; but for their image, which is long, if it is asked for.
func (p pair) mustBeAlike(t *testing.T, image bool) {
	t.Helper()
	if p.d.Left() != p.w.d.Left() || p.d.Waits() != p.w.d.Waits() || p.d.On() != p.w.d.On() {
		t.Fatalf("Left %d, Waits %d, On %v, not %d, %d, %v", p.d.Left(), p.d.Waits(), p.d.On(), p.w.d.Left(), p.w.d.Waits(), p.w.d.On())
	}
	if got, want := p.d.Meter().All(), p.w.d.Meter().All(); !slices.Equal(got, want) {
		t.Fatalf("the meter has %v, not %v", got, want)
	}
	if image && !bytes.Equal(p.d.Image(), p.w.d.Image()) {
		t.Fatal("another image than it should be")
	}
}

// mustReadAlike holds all sectors of both disks, as they are read.
func (p pair) mustReadAlike(t *testing.T) {
	t.Helper()
	for n := range p.d.Size() {
		got, e := p.d.Read(n)
		if want, w := p.w.d.Read(n); got != want || e != w {
			t.Fatalf("sector %d is %x, %d, not %x, %d", n, got, e, want, w)
		}
	}
}

// The kinds of calls.
const (
	doRead = iota
	doWrite
	doWipe
	doPut
	doTake
	doings
)

// call does one of the calls with a sector of both, and is what they told.
func (p pair) call(t *testing.T, l *lot, what, n int) api.Errno {
	t.Helper()
	switch what {
	case doRead:
		b, e := p.a.Read(n)
		if want, w := p.w.read(n); b != want || e != w {
			t.Fatalf("Read(%d) = %x, %d, not %x, %d", n, b, e, want, w)
		}
		return e
	case doWrite:
		b := l.sector()
		e := p.a.Write(n, b)
		mustSay(t, "Write", e, p.w.write(n, b))
		return e
	case doWipe:
		e := p.a.Wipe(n)
		mustSay(t, "Wipe", e, p.w.write(n, [size]byte{}))
		return e
	case doPut:
		kind, number, load := 1+l.below(3), l.below(1<<30), l.bytes(l.below(api.MaxLoad+1))
		e := p.a.Put(n, kind, number, load)
		mustSay(t, "Put", e, p.w.put(n, kind, number, load))
		return e
	}
	kind := 1 + l.below(3)
	number, load, e := p.a.Take(n, kind)
	if wn, wl, w := p.w.take(n, kind); number != wn || !bytes.Equal(load, wl) || e != w {
		t.Fatalf("Take(%d, %d) = %d, %x, %d, not %d, %x, %d", n, kind, number, load, e, wn, wl, w)
	}
	return e
}

// numbers are a span's sectors, and such as it hasn't, some of which are taken for a sector of the disk, if they go round or lose some bits.
func numbers(sectors int, s api.Span) []int {
	l := []int{-1, 0, s.Many / 2, s.Many - 1, s.Many, s.Many + 1, -s.First, -s.First - 1, sectors, sectors - s.First, sectors - s.First - 1, least - s.First, most - s.First}
	for more := range 3 {
		l = append(l, least+more, most-more, -2-more, sectors+1+more)
	}
	for k := 8; k < 63; k++ {
		l = append(l, 1<<k, -1<<k, 1<<k+s.Many-1, 1<<k-s.First)
	}
	return l
}

// The states in which a disk is asked.
const (
	fresh = iota
	noRoom
	going // the power goes with the next operation
	off
	states
)

// spans are areas at a disk's beginning, within it, at its end, and of all of it.
func spans(sectors int) []api.Span {
	return []api.Span{{First: 0, Many: 1}, {First: 0, Many: 4}, {First: 3, Many: 1}, {First: 2, Many: sectors - 4}, {First: sectors - 3, Many: 3}, {First: sectors - 1, Many: 1}, {First: 0, Many: sectors}}
}

// inState is two disks that are alike, of which no sector is in use.
func inState(t *testing.T, sectors, state int) (d, other *disk.Disk) {
	t.Helper()
	room := sectors
	if state == noRoom {
		room = 0
	}
	d, other = mustMake(t, sectors, room), mustMake(t, sectors, room)
	for _, x := range []*disk.Disk{d, other} {
		if state >= going {
			x.Cut(0)
		}
		if state == off {
			mustSay(t, "Flush", x.Flush(), api.ErrPower)
		}
	}
	return d, other
}

// wanted is what a call with a sector tells, of a disk of noughts.
func wanted(what, state int, has bool) api.Errno {
	writes := what == doWrite || what == doWipe || what == doPut
	switch {
	case !has:
		return api.ErrRange
	case state == off:
		return api.ErrPower
	case writes && state == going:
		return api.ErrPower
	case writes && state == noRoom:
		return api.ErrFull
	case what == doTake:
		return api.ErrSeal
	}
	return api.OK
}

func TestEachCallInEachState(t *testing.T) {
	const sectors = 9
	l := lot(1)
	for _, s := range spans(sectors) {
		for _, n := range numbers(sectors, s) {
			for state := range states {
				for what := range doings {
					d, other := inState(t, sectors, state)
					p := mustPair(t, d, other, s)
					want := wanted(what, state, n >= 0 && n < s.Many)
					if e := p.call(t, &l, what, n); e != want {
						t.Fatalf("call %d of sector %d of %v, state %d: error %d, not %d", what, n, s, state, e, want)
					}
					p.mustBeAlike(t, true)
					p.mustReadAlike(t)
				}
			}
		}
	}
}

// What the disk has no room for is told of other sectors alone than those in use.
func TestNoRoom(t *testing.T) {
	d := mustMake(t, 6, 2)
	a := mustHave(t, d, api.Span{First: 2, Many: 3})
	mustSay(t, "Write", a.Write(1, all(1)), api.OK)
	mustSay(t, "Put", a.Put(2, 1, 2, nil), api.OK)
	mustSay(t, "Write", a.Write(0, all(1)), api.ErrFull)
	mustSay(t, "Wipe", a.Wipe(0), api.ErrFull)
	mustSay(t, "Put", a.Put(0, 1, 2, nil), api.ErrFull)
	mustSay(t, "Write", a.Write(3, all(1)), api.ErrRange)
	mustSay(t, "Wipe", a.Wipe(1), api.OK)
	mustSay(t, "Put", a.Put(1, 3, 4, []byte{5}), api.OK)
	mustTake(t, a, 1, 3, 4, []byte{5})
	mustTake(t, a, 2, 1, 2, nil)
	mustRead(t, a, 0, all(0))
}

// What is written in an area stands on the disk at that place, and the other way.
func TestPlaces(t *testing.T) {
	const sectors = 9
	for _, s := range spans(sectors) {
		d := mustMake(t, sectors, sectors)
		a := mustHave(t, d, s)
		for n := range sectors {
			mustSay(t, "the disk's Write", d.Write(n, all(byte(100+n))), api.OK)
		}
		for n := range s.Many {
			mustRead(t, a, n, all(byte(100+s.First+n)))
			mustSay(t, "Write", a.Write(n, all(byte(1+n))), api.OK)
			mustRead(t, a, n, all(byte(1+n)))
		}
		for n := range sectors {
			want := all(byte(100 + n))
			if n >= s.First && n < s.First+s.Many {
				want = all(byte(1 + n - s.First))
			}
			if b, e := d.Read(n); e != api.OK || b != want {
				t.Fatalf("%v: sector %d is %x, %d, not %x", s, n, b, e, want)
			}
		}
	}
}

func TestWipe(t *testing.T) {
	d := mustMake(t, 5, 5)
	a := mustHave(t, d, api.Span{First: 1, Many: 3})
	for n := range 3 {
		mustSay(t, "Write", a.Write(n, all(byte(n+1))), api.OK)
	}
	mustSay(t, "Wipe", a.Wipe(1), api.OK)
	mustRead(t, a, 0, all(1))
	mustRead(t, a, 1, all(0))
	mustRead(t, a, 2, all(3))
	if d.Waits() != 4 || d.Meter().Count(api.MeterWrite) != 4 {
		t.Fatal("a wipe is a write", d.Waits())
	}
	mustSay(t, "Flush", a.Flush(), api.OK)
	mustSay(t, "Wipe", a.Wipe(0), api.OK) // it waits as all that is written does
	d.Crash(nil)
	mustRead(t, a, 0, all(1))
	mustRead(t, a, 1, all(0))
	mustSay(t, "Wipe", a.Wipe(0), api.OK)
	d.Crash([]byte{3})
	torn := all(1)
	torn[0], torn[1], torn[2] = 0, 0, 0
	mustRead(t, a, 0, torn)
}

func TestPut(t *testing.T) {
	l := lot(2)
	d := mustMake(t, 5, 5)
	a := mustHave(t, d, api.Span{First: 1, Many: 3})
	for _, kind := range []int{1, 2, 3, 4, 128, 254, 255} {
		for _, number := range []int{0, 1, 255, 256, 1 << 40, most - 1, most} {
			for _, many := range []int{0, 1, 2, 112, api.MaxLoad} {
				load := l.bytes(many)
				was := bytes.Clone(load)
				n := l.below(3)
				mustSay(t, "Put", a.Put(n, kind, number, load), api.OK)
				if !bytes.Equal(load, was) {
					t.Fatal("the load was changed")
				}
				clear(load) // what was put is no more the caller's
				mustRead(t, a, n, sealed(t, kind, number, was))
				mustTake(t, a, n, kind, number, was)
			}
		}
	}
	mustSay(t, "Put", a.Put(2, 4, 258, []byte("ab")), api.OK)
	b, _ := d.Read(3)
	if !bytes.Equal(b[:13], []byte{4, 2, 1, 0, 0, 0, 0, 0, 0, 2, 'a', 'b', 0}) || b[127] != 215 {
		t.Fatalf("%x", b)
	}
}

// What can't be sealed is told ahead of all else but that the area is none, and isn't written.
func TestPutOfWhatMayNotBe(t *testing.T) {
	const sectors = 9
	s := api.Span{First: 3, Many: 4}
	for _, c := range []struct {
		kind, number, many int
		want               api.Errno
	}{
		{0, 0, 0, api.ErrArg}, {-1, 0, 0, api.ErrArg}, {256, 0, 0, api.ErrArg}, {257, 5, 1, api.ErrArg}, {least, 0, 0, api.ErrArg}, {most, 0, 0, api.ErrArg},
		{1, -1, 0, api.ErrArg}, {255, -256, 3, api.ErrArg}, {4, least, 0, api.ErrArg},
		{0, 0, api.MaxLoad + 1, api.ErrArg}, {256, -1, 200, api.ErrArg}, {4, -1, api.MaxLoad + 1, api.ErrArg},
		{4, 0, api.MaxLoad + 1, api.ErrLimit}, {1, most, size, api.ErrLimit}, {255, 1, 256, api.ErrLimit}, {2, 2, 1 << 16, api.ErrLimit},
	} {
		for _, n := range []int{-1, 0, 3, 4, least, most} {
			for state := range states {
				d, other := inState(t, sectors, state)
				p := mustPair(t, d, other, s)
				e := p.a.Put(n, c.kind, c.number, make([]byte, c.many))
				if e != c.want {
					t.Fatalf("Put(%d, %d, %d, %d bytes), state %d: error %d, not %d", n, c.kind, c.number, c.many, state, e, c.want)
				}
				p.mustBeAlike(t, true) // nothing was done with the other disk
				p.mustReadAlike(t)
			}
		}
	}
}

// What can be sealed, but not written, writes nothing over what is there.
func TestPutOfNoSuchSector(t *testing.T) {
	d := mustMake(t, 9, 9)
	a := mustHave(t, d, api.Span{First: 3, Many: 4})
	for _, n := range numbers(9, api.Span{First: 3, Many: 4}) {
		if n >= 0 && n < 4 {
			continue
		}
		mustSay(t, "Put", a.Put(n, 1, 2, []byte{3}), api.ErrRange)
	}
	if d.Waits() != 0 || d.Left() != 9 {
		t.Fatal(d.Waits(), d.Left())
	}
}

func TestTake(t *testing.T) {
	d := mustMake(t, 6, 6)
	a := mustHave(t, d, api.Span{First: 2, Many: 3})
	mustNotTake(t, a, 1, 3, api.ErrSeal) // noughts
	mustSay(t, "Write", a.Write(1, all(3)), api.OK)
	mustNotTake(t, a, 1, 3, api.ErrSeal) // not sealed
	mustSay(t, "Put", a.Put(1, 3, 77, []byte("load")), api.OK)
	mustTake(t, a, 1, 3, 77, []byte("load"))
	for _, kind := range []int{0, 1, 2, 4, 255, -1, 256, 259, -253, 1<<32 + 3, least + 3, most} { // of another kind, and of such as may not be
		mustNotTake(t, a, 1, kind, api.ErrSeal)
	}
	mustNotTake(t, a, 0, 3, api.ErrSeal) // sealed is its neighbour alone
	mustNotTake(t, a, 2, 3, api.ErrSeal)
	mustTake(t, a, 1, 3, 77, []byte("load")) // it stays
	for at := range size {                   // turned
		b := sealed(t, 3, 77, []byte("load"))
		b[at] ^= 4
		mustSay(t, "Write", a.Write(0, b), api.OK)
		mustNotTake(t, a, 0, 3, api.ErrSeal)
	}
	mustSay(t, "Write", a.Write(0, sealed(t, 3, 8, nil)), api.OK) // sealed without Put
	mustTake(t, a, 0, 3, 8, nil)
	mustSay(t, "Wipe", a.Wipe(1), api.OK)
	mustNotTake(t, a, 1, 3, api.ErrSeal)
	mustTake(t, a, 0, 3, 8, nil)
}

// Of a sector that can't be read that is told, whatever the kind; what can be is read once, whatever comes of it.
func TestTakeOfWhatIsNotRead(t *testing.T) {
	d := mustMake(t, 6, 6)
	a := mustHave(t, d, api.Span{First: 2, Many: 3})
	for n := range 6 {
		mustSay(t, "Write", d.Write(n, sealed(t, 3, n, []byte{1})), api.OK)
	}
	kinds := []int{3, 4, 0, -1, 256, least, most}
	for _, kind := range kinds {
		for _, n := range []int{-1, -2, 3, 4, least, most} {
			mustNotTake(t, a, n, kind, api.ErrRange)
		}
	}
	if d.Meter().Count(api.MeterRead) != 0 {
		t.Fatal("what there is not was read")
	}
	for n := range 3 {
		mustTake(t, a, n, 3, n+2, []byte{1})
		mustNotTake(t, a, n, 0, api.ErrSeal)
	}
	if many := d.Meter().Count(api.MeterRead); many != 6 {
		t.Fatal(many, "reads")
	}
	d.Cut(0)
	mustTake(t, a, 0, 3, 2, []byte{1}) // a read is no operation with which the power goes
	mustSay(t, "Flush", a.Flush(), api.ErrPower)
	for _, kind := range kinds {
		mustNotTake(t, a, 0, kind, api.ErrPower)
		mustNotTake(t, a, 2, kind, api.ErrPower)
		mustNotTake(t, a, 3, kind, api.ErrRange)
	}
	if many := d.Meter().Count(api.MeterRead); many != 7 {
		t.Fatal(many, "reads")
	}
}

// What is taken is memory of its own.
func TestTakenIsOwn(t *testing.T) {
	a := mustHave(t, mustMake(t, 2, 2), api.Span{First: 1, Many: 1})
	mustSay(t, "Put", a.Put(0, 1, 2, []byte{3, 4}), api.OK)
	_, one, _ := a.Take(0, 1)
	_, two, _ := a.Take(0, 1)
	one[0] = 9
	if one = append(one, 8); !bytes.Equal(two, []byte{3, 4}) {
		t.Fatal(two)
	}
	mustTake(t, a, 0, 1, 2, []byte{3, 4})
}

func TestFlush(t *testing.T) {
	d := mustMake(t, 4, 4)
	a := mustHave(t, d, api.Span{First: 1, Many: 2})
	mustSay(t, "Flush of nothing", a.Flush(), api.OK)
	mustSay(t, "Write", a.Write(1, all(1)), api.OK)
	mustSay(t, "the disk's Write", d.Write(0, all(2)), api.OK) // a disk's flush keeps all that waits
	mustSay(t, "Flush", a.Flush(), api.OK)
	if d.Waits() != 0 || d.Meter().Count(api.MeterFlush) != 2 {
		t.Fatal(d.Waits(), d.Meter().All())
	}
	d.Crash(nil)
	mustRead(t, a, 1, all(1))
	if b, _ := d.Read(0); b != all(2) {
		t.Fatal(b)
	}
	mustSay(t, "Write", a.Write(1, all(3)), api.OK)
	d.Cut(0)
	mustSay(t, "Flush", a.Flush(), api.ErrPower) // the power goes with it
	if d.On() || d.Waits() != 1 || d.Meter().Count(api.MeterFlush) != 3 {
		t.Fatal(d.On(), d.Waits(), d.Meter().All())
	}
	mustSay(t, "Flush with the power off", a.Flush(), api.ErrPower)
	if d.Meter().Count(api.MeterFlush) != 3 {
		t.Fatal(d.Meter().All())
	}
	d.Crash(nil)
	mustRead(t, a, 1, all(1))
	mustSay(t, "Flush", a.Flush(), api.OK)
}

// All that is written counts for the cut, once each; what is read doesn't.
func TestCut(t *testing.T) {
	for cut := range 9 {
		d := mustMake(t, 4, 4)
		a := mustHave(t, d, api.Span{First: 1, Many: 2})
		d.Cut(cut)
		for done := range 9 {
			want := api.OK
			if done == cut {
				want = api.ErrPower
			}
			if _, e := a.Read(done % 2); e != api.OK {
				t.Fatal(e)
			}
			mustNotTake(t, a, 2, 1, api.ErrRange)
			mustSay(t, "Wipe", a.Wipe(-1), api.ErrRange)
			mustSay(t, "Put", a.Put(0, 0, 0, nil), api.ErrArg)
			switch done % 4 {
			case 0:
				mustSay(t, "Write", a.Write(0, all(1)), want)
			case 1:
				mustSay(t, "Put", a.Put(1, 1, done, nil), want)
			case 2:
				mustSay(t, "Flush", a.Flush(), want)
			case 3:
				mustSay(t, "Wipe", a.Wipe(0), want)
			}
			if d.On() != (want == api.OK) {
				t.Fatal("cut", cut, "done", done)
			}
			if !d.On() {
				break
			}
		}
	}
}

// P8.1 and P8.2: areas that are none.
func TestNone(t *testing.T) {
	for _, a := range []*area.Area{nil, {}, new(area.Area)} {
		if a.Many() != 0 {
			t.Fatal(a.Many())
		}
		for _, n := range []int{0, 1, -1, least, most} {
			if b, e := a.Read(n); e != api.ErrNil || b != all(0) {
				t.Fatal(b, e)
			}
			mustSay(t, "Write", a.Write(n, all(1)), api.ErrNil)
			mustSay(t, "Wipe", a.Wipe(n), api.ErrNil)
			for _, kind := range []int{1, 0, -1, 256} {
				mustNotTake(t, a, n, kind, api.ErrNil)
				for _, many := range []int{0, api.MaxLoad, api.MaxLoad + 1} {
					mustSay(t, "Put", a.Put(n, kind, n, make([]byte, many)), api.ErrNil)
				}
			}
		}
		mustSay(t, "Flush", a.Flush(), api.ErrNil)
	}
}

// P8.3: what is done in an area changes no sector beside it.

// mustStay holds all sectors that an area hasn't, as they are read, and as they are kept.
func (p pair) mustStay(t *testing.T, was []byte) {
	t.Helper()
	image := p.d.Image()
	for n := range p.d.Size() {
		if n >= p.w.s.First && n < p.w.s.First+p.w.s.Many {
			continue
		}
		want := was[n*size : (n+1)*size]
		if !bytes.Equal(image[n*size:(n+1)*size], want) {
			t.Fatalf("%v: sector %d is kept otherwise", p.w.s, n)
		}
		b, e := p.d.Read(n)
		p.w.d.Read(n) // for the meters to be alike
		if p.d.On() && (e != api.OK || !bytes.Equal(b[:], want)) {
			t.Fatalf("%v: sector %d is read as %x, %d", p.w.s, n, b, e)
		}
	}
}

// doSome does so many calls with a pair, of sectors that the area has, and that it hasn't.
func doSome(t *testing.T, l *lot, p pair, many int) {
	t.Helper()
	odd := numbers(p.d.Size(), p.w.s)
	for range many {
		n := l.below(p.w.s.Many)
		if l.below(3) == 0 {
			n = odd[l.below(len(odd))]
		}
		if l.below(9) == 0 {
			mustSay(t, "Flush", p.a.Flush(), p.w.d.Flush())
			continue
		}
		p.call(t, l, l.below(doings), n)
	}
}

// crash ends what waits on both disks alike.
func (p pair) crash(l *lot) {
	choices := l.bytes(l.below(p.d.Waits() + 2))
	p.d.Crash(choices)
	p.w.d.Crash(choices)
}

// What is beside was kept, or was never in use.
func TestNothingBeside(t *testing.T) {
	const sectors = 9
	l := lot(3)
	for _, s := range spans(sectors) {
		for range 30 {
			was := l.bytes(sectors * size)
			p := mustPair(t, mustLoad(t, was, sectors, sectors), mustLoad(t, was, sectors, sectors), s)
			mustDoNothingBeside(t, &l, p, was)

			p = mustPair(t, mustMake(t, sectors, sectors), mustMake(t, sectors, sectors), s)
			mustDoNothingBeside(t, &l, p, make([]byte, sectors*size))
			if left := p.d.Left(); left < sectors-s.Many {
				t.Fatalf("%v: %d left: a sector beside it came in use", s, left)
			}
		}
	}
}

// mustDoNothingBeside does many calls, with flushes and crashes, and the power going, between them.
func mustDoNothingBeside(t *testing.T, l *lot, p pair, was []byte) {
	t.Helper()
	for range 4 {
		cut := l.below(60) - 20
		p.d.Cut(cut)
		p.w.d.Cut(cut)
		doSome(t, l, p, 20)
		p.mustStay(t, was)
		mustSay(t, "Flush", p.a.Flush(), p.w.d.Flush())
		p.mustStay(t, was)
		doSome(t, l, p, 10)
		p.mustStay(t, was)
		p.crash(l)
		p.mustStay(t, was)
		p.mustBeAlike(t, true)
	}
}

// What waits beside an area waits on, and is read as it was, till a flush keeps it.
func TestWhatWaitsBeside(t *testing.T) {
	d := mustMake(t, 6, 6)
	a := mustHave(t, d, api.Span{First: 2, Many: 2})
	mustSay(t, "the disk's Write", d.Write(1, all(1)), api.OK)
	mustSay(t, "the disk's Write", d.Write(4, all(2)), api.OK)
	mustSay(t, "Write", a.Write(0, all(3)), api.OK)
	mustSay(t, "Put", a.Put(1, 1, 1, nil), api.OK)
	mustSay(t, "Wipe", a.Wipe(0), api.OK)
	for n, want := range map[int]byte{0: 0, 1: 1, 4: 2, 5: 0} {
		if b, e := d.Read(n); e != api.OK || b != all(want) {
			t.Fatal(n, b, e)
		}
	}
	if d.Waits() != 5 {
		t.Fatal(d.Waits())
	}
	d.Crash([]byte{size, 0, size, size, size})
	for n, want := range map[int]byte{0: 0, 1: 1, 2: 0, 4: 0, 5: 0} {
		if b, e := d.Read(n); e != api.OK || b != all(want) {
			t.Fatal(n, b, e)
		}
	}
	mustTake(t, a, 1, 1, 1, nil)
}

// The parts of a plan have no sector in common, and none beyond the disk: what is written in each of them, sector by sector, is there behind all else that is.
func TestPartsOfPlans(t *testing.T) {
	sizes := []int{100, 101, 1000, 2057, 2058, 2059, 2060, 4095, api.MaxSectors}
	for sectors := 13; sectors < 40; sectors++ {
		sizes = append(sizes, sectors)
	}
	for _, sectors := range sizes {
		d := mustMake(t, sectors, sectors)
		p := mustPlan(t, sectors)
		used := 0
		for kind, s := range parts(p) {
			a := mustHave(t, d, s) // there is none, if a sector is beyond the disk
			for n := range s.Many {
				mustSay(t, "Put", a.Put(n, kind+1, n, []byte{byte(kind)}), api.OK)
			}
			used += s.Many
		}
		if d.Left() != sectors-used {
			t.Fatalf("%d sectors: %d are in use, not %d", sectors, sectors-d.Left(), used)
		}
		mustSay(t, "Flush", d.Flush(), api.OK)
		for kind, s := range parts(p) {
			a := mustHave(t, d, s)
			for n := range s.Many {
				mustTake(t, a, n, kind+1, n, []byte{byte(kind)})
			}
		}
		for n := used; n < sectors; n++ { // behind all parts
			if b, e := d.Read(n); e != api.OK || b != all(0) {
				t.Fatal(n, b, e)
			}
		}
	}
}

// All promises at once: long runs of calls with several areas of one disk, those of a plan and such as have sectors in common, held against the words.

// begin is some areas of a disk that is empty, or has an image, and perhaps too little room.
func begin(t *testing.T, l *lot) []pair {
	t.Helper()
	sectors := 13 + l.below(8)
	room := sectors - l.below(8)
	image := l.bytes(l.below(room*size + 1))
	d, other := mustLoad(t, image, sectors, room), mustLoad(t, image, sectors, room)
	var out []pair
	for _, s := range parts(mustPlan(t, sectors)) {
		out = append(out, mustPair(t, d, other, s))
	}
	for range 3 {
		first := l.below(sectors)
		out = append(out, mustPair(t, d, other, api.Span{First: first, Many: 1 + l.below(sectors-first)}))
	}
	return out
}

func TestLongRuns(t *testing.T) {
	for run := range 300 {
		l := lot(run)
		pairs := begin(t, &l)
		for range 100 {
			p := pairs[l.below(len(pairs))]
			switch l.below(12) {
			case 0:
				cut := l.below(20) - 4
				p.d.Cut(cut)
				p.w.d.Cut(cut)
			case 1:
				p.crash(&l)
			default:
				doSome(t, &l, p, 1+l.below(4))
			}
			p.mustBeAlike(t, true)
		}
		pairs[0].mustReadAlike(t)
	}
}
