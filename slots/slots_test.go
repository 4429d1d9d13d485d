package slots_test

import (
	"bytes"
	"math"
	"slices"
	"testing"

	"tompion/api"
	"tompion/area"
	"tompion/crc"
	"tompion/disk"
	"tompion/num"
	"tompion/seal"
	"tompion/slots"
)

const (
	least   = math.MinInt
	most    = math.MaxInt
	size    = api.Sector
	nowhere = -1
)

// The disk here: a sector, the left slot, a sector, the right slot (which has one sector more than it needs), and two sectors.
const (
	leftAt    = 1
	leftMany  = 5
	rightAt   = 7
	rightMany = 6
	sectors   = 15
)

type sector = [size]byte

// lot draws numbers that are the same at each run.
type lot uint64

func (l *lot) below(n int) int {
	*l = *l*6364136223846793005 + 1442695040888963407
	return int(uint64(*l)>>33) % n
}

func (l *lot) bytes(many int) []byte {
	b := make([]byte, many)
	for at := range b {
		b[at] = byte(l.below(256))
	}
	return b
}

// length draws how many bytes are saved, mostly at an edge.
func (l *lot) length() int {
	edges := []int{0, 1, size - 1, size, size + 1, 2 * size, 3 * size, 3*size + 1, api.MaxSaved - 1, api.MaxSaved, api.MaxSaved + 1}
	if l.below(2) == 0 {
		return edges[l.below(len(edges))]
	}
	return l.below(api.MaxSaved + 2)
}

// mustSay holds an error's number.
func mustSay(t *testing.T, what string, got, want api.Errno) {
	t.Helper()
	if got != want {
		t.Fatalf("%s: error %d, not %d", what, got, want)
	}
}

// sealed is a sealed sector.
func sealed(t *testing.T, kind, number int, load []byte) sector {
	t.Helper()
	b, e := seal.Make(kind, number, load)
	if e != api.OK {
		t.Fatalf("seal.Make(%d, %d, %x): error %d", kind, number, load, e)
	}
	return b
}

// torn is the first bytes of a sector over another one.
func torn(b, over sector, many int) sector {
	copy(over[:], b[:many])
	return over
}

// needs is how many sectors so many bytes need.
func needs(many int) int {
	n := 0
	for ; many > 0; many -= size {
		n++
	}
	return n
}

// sumOf is the bytes of a load's sum.
func sumOf(load []byte) []byte {
	b := crc.Bytes(crc.Sum(load))
	return b[:]
}

// headOf is a slot's head: of a number, a length, and a sum.
func headOf(t *testing.T, number, length int, sum []byte) sector {
	t.Helper()
	return sealed(t, api.KindHead, number, append(num.Put(length), sum...))
}

// A slot's sectors, the first of which is its head.
type slot [leftMany]sector

// slotOf is a whole slot. Behind its bytes stand other ones than noughts, as they are none of its.
func slotOf(t *testing.T, number int, load []byte) slot {
	t.Helper()
	var s slot
	s[0] = headOf(t, number, len(load), sumOf(load))
	rest := bytes.Repeat([]byte{170}, api.MaxSaved)
	copy(rest, load)
	for n := 1; n < leftMany; n++ {
		s[n] = sector(rest[(n-1)*size:])
	}
	return s
}

// imageOf is the image of a disk with two slots, among sectors that would be heads.
func imageOf(t *testing.T, left, right slot) []byte {
	t.Helper()
	var image []byte
	for n := range sectors {
		b := headOf(t, most-n, 0, sumOf(nil))
		switch {
		case n >= leftAt && n < leftAt+leftMany:
			b = left[n-leftAt]
		case n >= rightAt && n < rightAt+leftMany:
			b = right[n-rightAt]
		}
		image = append(image, b[:]...)
	}
	return image
}

// put changes an image's sector.
func put(image []byte, n int, b sector) {
	copy(image[n*size:(n+1)*size], b[:])
}

// areasOf are the two slots' areas.
func areasOf(t *testing.T, d *disk.Disk) (left, right *area.Area) {
	t.Helper()
	left, e := area.New(d, api.Span{First: leftAt, Many: leftMany})
	mustSay(t, "area.New", e, api.OK)
	right, e = area.New(d, api.Span{First: rightAt, Many: rightMany})
	mustSay(t, "area.New", e, api.OK)
	return left, right
}

// onto is a disk that has so much on it, and the slots' areas.
func onto(t *testing.T, image []byte) (d *disk.Disk, left, right *area.Area) {
	t.Helper()
	d, e := disk.Load(image, sectors, sectors)
	mustSay(t, "disk.Load", e, api.OK)
	left, right = areasOf(t, d)
	return d, left, right
}

// mustOpen is slots that there must be.
func mustOpen(t *testing.T, left, right *area.Area) *slots.Slots {
	t.Helper()
	s, e := slots.Open(left, right)
	if e != api.OK || s == nil {
		t.Fatalf("Open = %v, %d", s, e)
	}
	return s
}

// mustNotOpen holds why there are no slots.
func mustNotOpen(t *testing.T, left, right *area.Area, want api.Errno) {
	t.Helper()
	if s, e := slots.Open(left, right); e != want || s != nil {
		t.Fatalf("Open(%d sectors, %d sectors) = %v, %d, not %d", left.Many(), right.Many(), s, e, want)
	}
}

// mustLoad holds what the newest slot has.
func mustLoad(t *testing.T, s *slots.Slots, want []byte, number int) {
	t.Helper()
	if load, n, ok := s.Load(); !ok || n != number || !bytes.Equal(load, want) {
		t.Fatalf("Load = %x, %d, %v, not %x, %d", load, n, ok, want, number)
	}
}

// mustNotLoad holds that no slot is whole.
func mustNotLoad(t *testing.T, s *slots.Slots) {
	t.Helper()
	if load, n, ok := s.Load(); ok || n != 0 || len(load) != 0 {
		t.Fatalf("Load = %x, %d, %v, though there is nothing", load, n, ok)
	}
}

// mustSave saves a load, of which the number must come.
func mustSave(t *testing.T, s *slots.Slots, load []byte, number int) {
	t.Helper()
	was := bytes.Clone(load)
	mustSay(t, "Save", s.Save(load), api.OK)
	mustLoad(t, s, was, number)
	if !bytes.Equal(load, was) {
		t.Fatal("what was handed in was changed")
	}
}

// mustNotSave holds why a load isn't saved; and that the newest is what it was.
func mustNotSave(t *testing.T, s *slots.Slots, load []byte, want api.Errno) {
	t.Helper()
	was, number, ok := s.Load()
	mustSay(t, "Save", s.Save(load), want)
	if ok {
		mustLoad(t, s, was, number)
	} else {
		mustNotLoad(t, s)
	}
}

// mustCount holds how many reads, writes and flushes there were.
func mustCount(t *testing.T, d *disk.Disk, reads, writes, flushes int) {
	t.Helper()
	if got := d.Meter().All(); !slices.Equal(got, []int{reads, writes, flushes, 0, 0, 0}) {
		t.Fatalf("the meter has %v, not %d, %d, %d", got, reads, writes, flushes)
	}
}

// lists are all lists of so many items, each of which is one of these.
func lists[T any](many int, each ...T) [][]T {
	out := [][]T{nil}
	for range many {
		var longer [][]T
		for _, l := range out {
			for _, c := range each {
				longer = append(longer, append(slices.Clone(l), c))
			}
		}
		out = longer
	}
	return out
}

// Slots by the chapter's words, on a disk of their own, which is given the same as the slots'.

type said struct {
	d      *disk.Disk
	firsts [2]int
	newest int
	number int
	load   []byte
}

// whole is what a slot has, if it is whole.
func (w *said) whole(first int) (number int, load []byte, is bool, e api.Errno) {
	b, e := w.d.Read(first)
	if e != api.OK {
		return 0, nil, false, e
	}
	number, head, bad := seal.Open(b, api.KindHead)
	if bad != api.OK || len(head) != 12 {
		return 0, nil, false, api.OK
	}
	length, _ := num.Get(head[:8])
	if length < 0 || length > api.MaxSaved {
		return 0, nil, false, api.OK
	}
	for n := range needs(length) {
		b, e := w.d.Read(first + 1 + n)
		if e != api.OK {
			return 0, nil, false, e
		}
		load = append(load, b[:]...)
	}
	load = load[:length]
	return number, load, bytes.Equal(head[8:], sumOf(load)), api.OK
}

func (w *said) open() api.Errno {
	w.newest, w.number, w.load = nowhere, 0, nil
	for at, first := range w.firsts {
		number, load, is, e := w.whole(first)
		if e != api.OK {
			return e
		}
		if is && (w.newest == nowhere || number > w.number) {
			w.newest, w.number, w.load = at, number, load
		}
	}
	return api.OK
}

// save does the steps one by one, each unless there was an error.
func (w *said) save(t *testing.T, load []byte) api.Errno {
	t.Helper()
	if len(load) > api.MaxSaved || w.newest != nowhere && w.number == api.MaxNumber {
		return api.ErrLimit
	}
	at := 0
	if w.newest == 0 {
		at = 1
	}
	number := 1
	if w.newest != nowhere {
		number = w.number + 1
	}
	first := w.firsts[at]
	e := w.d.Write(first, sector{})
	if e == api.OK {
		e = w.d.Flush()
	}
	full := append(bytes.Clone(load), make([]byte, api.MaxSaved)...)
	for n := range needs(len(load)) {
		if e == api.OK {
			e = w.d.Write(first+1+n, sector(full[n*size:]))
		}
	}
	if e == api.OK {
		e = w.d.Flush()
	}
	if e == api.OK {
		e = w.d.Write(first, headOf(t, number, len(load), sumOf(load)))
	}
	if e == api.OK {
		e = w.d.Flush()
	}
	if e == api.OK {
		w.newest, w.number, w.load = at, number, bytes.Clone(load)
	}
	return e
}

// pair is a disk with slots, and the same by the words.
type pair struct {
	d           *disk.Disk
	left, right *area.Area
	s           *slots.Slots // nil, if none were opened
	w           said
}

// mustPair is two disks that are alike, with no slots opened yet.
func mustPair(t *testing.T, image []byte, room int) *pair {
	t.Helper()
	d, e := disk.Load(image, sectors, room)
	mustSay(t, "disk.Load", e, api.OK)
	other, e := disk.Load(image, sectors, room)
	mustSay(t, "disk.Load", e, api.OK)
	left, right := areasOf(t, d)
	return &pair{d: d, left: left, right: right, w: said{d: other, firsts: [2]int{leftAt, rightAt}}}
}

// open opens the slots on both disks, and is what was told.
func (p *pair) open(t *testing.T) api.Errno {
	t.Helper()
	s, e := slots.Open(p.left, p.right)
	mustSay(t, "Open", e, p.w.open())
	if (s == nil) != (e != api.OK) {
		t.Fatalf("Open = %v, %d", s, e)
	}
	p.s = s
	return e
}

// save saves on both disks, and is what was told.
func (p *pair) save(t *testing.T, load []byte) api.Errno {
	t.Helper()
	e := p.s.Save(load)
	mustSay(t, "Save", e, p.w.save(t, load))
	return e
}

func (p *pair) cut(n int) {
	p.d.Cut(n)
	p.w.d.Cut(n)
}

// crash leaves the slots as they were opened.
func (p *pair) crash(choices []byte) {
	p.d.Crash(choices)
	p.w.d.Crash(choices)
}

// mustBeAlike holds all that the disks and the slots tell.
func (p *pair) mustBeAlike(t *testing.T) {
	t.Helper()
	if p.s != nil && p.w.newest == nowhere {
		mustNotLoad(t, p.s)
	} else if p.s != nil {
		mustLoad(t, p.s, p.w.load, p.w.number)
	}
	if p.d.Left() != p.w.d.Left() || p.d.Waits() != p.w.d.Waits() || p.d.On() != p.w.d.On() {
		t.Fatalf("Left %d, Waits %d, On %v, not %d, %d, %v", p.d.Left(), p.d.Waits(), p.d.On(), p.w.d.Left(), p.w.d.Waits(), p.w.d.On())
	}
	if got, want := p.d.Meter().All(), p.w.d.Meter().All(); !slices.Equal(got, want) {
		t.Fatalf("the meter has %v, not %v", got, want)
	}
	if !bytes.Equal(p.d.Image(), p.w.d.Image()) {
		t.Fatal("another image than it should be")
	}
}

// mustReadAlike holds all sectors of both disks, as they are read.
func (p *pair) mustReadAlike(t *testing.T) {
	t.Helper()
	for n := range sectors {
		got, e := p.d.Read(n)
		if want, w := p.w.d.Read(n); got != want || e != w {
			t.Fatalf("sector %d is %x, %d, not %x, %d", n, got, e, want, w)
		}
	}
}

// What a slot may be.
const (
	whole       = iota
	blank       // all of it
	blankHead   // with all bytes there
	tornHead    // over noughts
	tornOver    // over a head of another number
	tornWipe    // noughts over a head, but for its last byte
	turnedHead  // its number
	turnedSeal  // its sum
	rootKind    // a head of another kind
	logKind     // likewise
	noLoad      // a head that has none
	lengthAlone // a head whose load is the length
	eleven      // a head with a load of so many bytes
	thirteen    // likewise
	twenty      // likewise
	minusOne    // a length
	leastLength // likewise
	wrapLength  // one whose lower four bytes would be a length
	tooLong     // one more than MaxSaved
	mostLength
	otherSum  // by one bit
	sumTurned // its bytes the other way round
	sumOfNone // that of no byte
	sumOfMore // that of one byte more
	noSum     // noughts
	tornBytes // the last one of them is gone
	turnedBytes
	turnedFirst
	kinds
)

// flawed is a slot of a kind.
func flawed(t *testing.T, what, number int, load []byte) slot {
	t.Helper()
	s := slotOf(t, number, load)
	sum := sumOf(load)
	length := num.Put(len(load))
	switch what {
	case blank:
		s = slot{}
	case blankHead:
		s[0] = sector{}
	case tornHead:
		s[0] = torn(s[0], sector{}, size-1)
	case tornOver:
		s[0] = torn(s[0], headOf(t, number^4, len(load), sum), 5)
	case tornWipe:
		s[0] = torn(sector{}, s[0], 1)
	case turnedHead:
		s[0][1] ^= 1
	case turnedSeal:
		s[0][size-2] ^= 128
	case rootKind:
		s[0] = sealed(t, api.KindRoot, number, append(length, sum...))
	case logKind:
		s[0] = sealed(t, api.KindLog, number, append(length, sum...))
	case noLoad:
		s[0] = sealed(t, api.KindHead, number, nil)
	case lengthAlone:
		s[0] = sealed(t, api.KindHead, number, length)
	case eleven:
		s[0] = sealed(t, api.KindHead, number, append(length, sum...)[:11])
	case thirteen:
		s[0] = sealed(t, api.KindHead, number, append(append(length, sum...), 0))
	case twenty:
		s[0] = sealed(t, api.KindHead, number, append(append(length, sum...), length...))
	case minusOne, leastLength, wrapLength, tooLong, mostLength:
		wrong := map[int]int{minusOne: -1, leastLength: least, wrapLength: 1<<32 + len(load), tooLong: api.MaxSaved + 1, mostLength: most}[what]
		s[0] = headOf(t, number, wrong, sum)
	default:
		s = flawedSum(t, s, what, number, load)
	}
	return s
}

// flawedSum is a slot whose head may be one, but whose sum isn't that of its bytes.
func flawedSum(t *testing.T, s slot, what, number int, load []byte) slot {
	t.Helper()
	sum := sumOf(load)
	switch what {
	case otherSum:
		sum[3] ^= 1
	case sumTurned:
		slices.Reverse(sum)
	case sumOfNone:
		sum = sumOf(nil)
	case sumOfMore:
		sum = sumOf(append(bytes.Clone(load), 170))
	case noSum:
		sum = make([]byte, 4)
	case tornBytes:
		s[1+(len(load)-1)/size][(len(load)-1)%size]++
	case turnedBytes:
		s[1+len(load)/2/size][len(load)/2%size] ^= 16
	case turnedFirst:
		s[1][0] ^= 1
	}
	s[0] = headOf(t, number, len(load), sum)
	return s
}

// isHead is whether a slot of a kind has a head that may be one, so that its bytes are read.
func isHead(what int) bool {
	return what == whole || what >= otherSum
}

// P10.1: what is opened.

// The chapter's example.
func TestExample(t *testing.T) {
	d, left, right := onto(t, nil)
	s := mustOpen(t, left, right)
	mustNotLoad(t, s)
	mustSave(t, s, []byte("one"), 1)
	if b, e := left.Read(0); e != api.OK || b != headOf(t, 1, 3, sumOf([]byte("one"))) {
		t.Fatalf("the left head is %x, %d", b, e)
	}
	if !bytes.Equal(d.Image()[rightAt*size:], make([]byte, (sectors-rightAt)*size)) {
		t.Fatal("something was written to the right slot")
	}
	d.Crash(nil)
	mustLoad(t, mustOpen(t, left, right), []byte("one"), 1)
}

// A head byte by byte, of a length and a number that have more than one.
func TestHeadAsBytes(t *testing.T) {
	load := bytes.Repeat([]byte{7}, 258)
	_, left, right := onto(t, imageOf(t, slotOf(t, 770, nil), slot{}))
	mustSave(t, mustOpen(t, left, right), load, 771)
	b, e := right.Read(0)
	mustSay(t, "Read", e, api.OK)
	sum := crc.Sum(load)
	want := []byte{2, 3, 3, 0, 0, 0, 0, 0, 0, 12, 2, 1, 0, 0, 0, 0, 0, 0, byte(sum), byte(sum >> 8), byte(sum >> 16), byte(sum >> 24), 0}
	if !bytes.Equal(b[:len(want)], want) || b[size-1] != 215 {
		t.Fatalf("the head is %x", b)
	}
}

// That an area is none comes ahead of how many sectors the other one has.
func TestOpenOfNoArea(t *testing.T) {
	d, _, _ := onto(t, nil)
	for _, none := range []*area.Area{nil, {}, new(area.Area)} {
		for many := 1; many <= 7; many++ {
			a, e := area.New(d, api.Span{First: 3, Many: many})
			mustSay(t, "area.New", e, api.OK)
			mustNotOpen(t, none, a, api.ErrNil)
			mustNotOpen(t, a, none, api.ErrNil)
		}
		for _, other := range []*area.Area{nil, {}} {
			mustNotOpen(t, none, other, api.ErrNil)
			mustNotOpen(t, other, none, api.ErrNil)
		}
	}
	mustCount(t, d, 0, 0, 0)
}

// That there are too few sectors comes ahead of the power, and ahead of all reading.
func TestOpenOfFewSectors(t *testing.T) {
	load := []byte("load")
	for _, off := range []bool{false, true} {
		for leftMany := 1; leftMany <= 7; leftMany++ {
			for rightMany := 1; rightMany <= 7; rightMany++ {
				d, _, right := onto(t, imageOf(t, slotOf(t, 3, load), slotOf(t, 4, []byte("more"))))
				left, e := area.New(d, api.Span{First: leftAt, Many: leftMany})
				mustSay(t, "area.New", e, api.OK)
				right, e = area.New(d, api.Span{First: rightAt, Many: rightMany})
				mustSay(t, "area.New", e, api.OK)
				flushes := 0
				if off {
					d.Cut(0)
					mustSay(t, "Flush", d.Flush(), api.ErrPower)
					flushes = 1
				}
				switch {
				case leftMany < 5 || rightMany < 5:
					mustNotOpen(t, left, right, api.ErrArg)
					mustCount(t, d, 0, 0, flushes)
				case off:
					mustNotOpen(t, left, right, api.ErrPower)
					mustCount(t, d, 0, 0, flushes)
				default:
					mustLoad(t, mustOpen(t, left, right), []byte("more"), 4)
					mustCount(t, d, 4, 0, 0)
				}
			}
		}
	}
}

// Each slot of each kind, beside each other one, of numbers that are greater, less, and the same.
func TestOpen(t *testing.T) {
	l := lot(1)
	numbers := [][2]int{{1, 2}, {2, 1}, {5, 5}, {0, 0}, {0, 1}, {255, 256}, {256, 255}, {1 << 40, 3}, {most, most}, {most - 1, most}}
	lengths := [][2]int{{4, 4}, {128, 129}, {3, 512}}
	for leftKind := range kinds {
		for rightKind := range kinds {
			for _, n := range numbers {
				for _, many := range lengths {
					loads := [2][]byte{l.bytes(many[0]), l.bytes(many[1])}
					mustOpenKinds(t, [2]int{leftKind, rightKind}, n, loads)
				}
			}
		}
	}
}

// mustOpenKinds holds what slots of two kinds are opened as, and what is done for it.
func mustOpenKinds(t *testing.T, what, numbers [2]int, loads [2][]byte) {
	t.Helper()
	newest, reads := nowhere, 0
	for at, w := range what {
		reads++
		if isHead(w) {
			reads += needs(len(loads[at]))
		}
		if w == whole && (newest == nowhere || numbers[at] > numbers[newest]) {
			newest = at
		}
	}
	image := imageOf(t, flawed(t, what[0], numbers[0], loads[0]), flawed(t, what[1], numbers[1], loads[1]))
	d, left, right := onto(t, image)
	d.Cut(0) // to read is no operation with which the power goes
	s := mustOpen(t, left, right)
	if newest == nowhere {
		mustNotLoad(t, s)
	} else {
		mustLoad(t, s, loads[newest], numbers[newest])
	}
	mustCount(t, d, reads, 0, 0)
	if !d.On() || d.Waits() != 0 || !bytes.Equal(d.Image(), image) {
		t.Fatal("more was done than to read")
	}
}

// Loads of each length that may be, in either slot; as many sectors are read as have bytes.
func TestOpenOfEachLength(t *testing.T) {
	l := lot(2)
	for many := range api.MaxSaved + 1 {
		load := l.bytes(many)
		for _, left := range []bool{true, false} {
			image := imageOf(t, slotOf(t, 1, load), slot{})
			if !left {
				image = imageOf(t, slot{}, slotOf(t, 1, load))
			}
			d, a, b := onto(t, image)
			mustLoad(t, mustOpen(t, a, b), load, 1)
			mustCount(t, d, 2+needs(many), 0, 0)
		}
	}
}

// Lengths that aren't, with a sum that would do, and how many sectors are read then.
func TestOpenOfNoLength(t *testing.T) {
	for _, length := range []int{-1, -2, -128, -512, least, least + 1, least + 512, 513, 514, 639, 640, 641, 1024, 1 << 16, 1 << 31, 1 << 32, 1<<32 + 4, -1<<32 + 4, 1 << 62, most - 1, most} {
		for _, sum := range [][]byte{sumOf(nil), sumOf(make([]byte, 4)), sumOf(make([]byte, 512)), sumOf(make([]byte, 513))} {
			d, left, right := onto(t, imageOf(t, slot{headOf(t, 9, length, sum)}, slot{}))
			mustNotLoad(t, mustOpen(t, left, right))
			mustCount(t, d, 2, 0, 0)
		}
	}
}

// Each bit of a head, and of the bytes, turned; and the ones behind them, which are none of the slot's.
func TestOpenOfTurned(t *testing.T) {
	l := lot(3)
	for _, many := range []int{0, 1, 127, 128, 129, 300} {
		load := l.bytes(many)
		s := slotOf(t, 8, load)
		for bit := range 8 * size * leftMany {
			turned := s
			turned[bit/8/size][bit/8%size] ^= 1 << (bit % 8)
			is := bit >= 8*(size+many)
			mustHoldRight(t, turned, load, is)
		}
	}
}

// Each length of a head that was torn: over noughts, over the head of other bytes, by noughts; and of bytes that were.
func TestOpenOfTorn(t *testing.T) {
	l := lot(4)
	for _, many := range []int{0, 2, 128, 200, 512} {
		load := l.bytes(many)
		s := slotOf(t, 8, load)
		other := slotOf(t, 9, bytes.Repeat([]byte{1}, 300))
		for cut := range size + 1 {
			for _, over := range []sector{{}, other[0]} {
				head := s
				head[0] = torn(s[0], over, cut)
				mustHoldRight(t, head, load, head[0] == s[0])
			}
			wiped := s
			wiped[0] = torn(sector{}, s[0], cut)
			mustHoldRight(t, wiped, load, cut == 0)
			for n := 1; n < leftMany; n++ {
				bad := s
				bad[n] = torn(s[n], sector{1: 1, size - 1: 1}, cut)
				is := bytes.Equal(bytesOf(bad)[:many], load)
				mustHoldRight(t, bad, load, is)
			}
		}
	}
}

// bytesOf are the bytes of a slot's sectors.
func bytesOf(s slot) []byte {
	var b []byte
	for _, one := range s[1:] {
		b = append(b, one[:]...)
	}
	return b
}

// mustHoldRight holds whether the right slot is whole; the left one is, and its number is less.
func mustHoldRight(t *testing.T, right slot, load []byte, is bool) {
	t.Helper()
	_, a, b := onto(t, imageOf(t, slotOf(t, 7, []byte("left")), right))
	if s := mustOpen(t, a, b); is {
		mustLoad(t, s, load, 8)
	} else {
		mustLoad(t, s, []byte("left"), 7)
	}
}

// Numbers are held whole: of each two the greater one's load is there, and the left one's, if they are the same.
func TestOpenOfNumbers(t *testing.T) {
	numbers := []int{0, 1, 2, 127, 128, 255, 256, 257, 1 << 15, 1 << 16, 1<<31 - 1, 1 << 31, 1 << 32, 1<<32 + 1, 1<<56 - 1, 1 << 56, 1<<62 + 1, most - 1, most}
	for _, l := range numbers {
		for _, r := range numbers {
			_, left, right := onto(t, imageOf(t, slotOf(t, l, []byte("left")), slotOf(t, r, []byte("right"))))
			if s := mustOpen(t, left, right); l >= r {
				mustLoad(t, s, []byte("left"), l)
			} else {
				mustLoad(t, s, []byte("right"), r)
			}
		}
	}
}

// off lets a disk's power go.
func off(t *testing.T, d *disk.Disk) {
	t.Helper()
	d.Cut(0)
	mustSay(t, "Flush", d.Flush(), api.ErrPower)
	d.Meter().Take(api.MeterFlush)
}

// The left slot is read first, all of it, and then the right one: which is seen of slots on two disks, of which one has no power.
func TestOrderOfReading(t *testing.T) {
	for _, many := range []int{0, 1, 128, 129, 512} {
		load := bytes.Repeat([]byte{5}, many)
		image := imageOf(t, slotOf(t, 1, load), slotOf(t, 2, load))
		d, left, _ := onto(t, image)
		other, _, right := onto(t, image)
		mustLoad(t, mustOpen(t, left, right), load, 2)
		mustCount(t, d, 1+needs(many), 0, 0)
		mustCount(t, other, 1+needs(many), 0, 0)
		off(t, other)
		mustNotOpen(t, left, right, api.ErrPower)
		mustCount(t, d, 2+2*needs(many), 0, 0) // the left one was read ahead of that
		mustCount(t, other, 1+needs(many), 0, 0)
		off(t, d)
		other.Crash(nil)
		mustNotOpen(t, left, right, api.ErrPower)
		mustCount(t, d, 2+2*needs(many), 0, 0)
		mustCount(t, other, 1+needs(many), 0, 0) // and the right one wasn't behind it
	}
}

// What waits is read as all else is, and waits on.
func TestOpenOfWhatWaits(t *testing.T) {
	load := []byte("waits")
	d, left, right := onto(t, imageOf(t, slotOf(t, 1, []byte("left")), slot{}))
	for n, b := range slotOf(t, 2, load) {
		mustSay(t, "Write", right.Write(n, b), api.OK)
	}
	mustLoad(t, mustOpen(t, left, right), load, 2)
	mustCount(t, d, 4, leftMany, 0)
	if d.Waits() != leftMany {
		t.Fatal(d.Waits())
	}
	d.Crash(nil)
	mustLoad(t, mustOpen(t, left, right), []byte("left"), 1)
}

// What was opened stays, whatever is written to the slots since, and whatever becomes of the power; nothing is read for it.
func TestLoadIsAsOpened(t *testing.T) {
	load := bytes.Repeat([]byte("load"), 50)
	d, left, right := onto(t, imageOf(t, slotOf(t, 4, load), slotOf(t, 3, nil)))
	s := mustOpen(t, left, right)
	for n := range leftMany {
		mustSay(t, "Wipe", left.Wipe(n), api.OK)
	}
	mustLoad(t, s, load, 4)
	off(t, d)
	mustLoad(t, s, load, 4)
	d.Crash([]byte{0, size})
	mustLoad(t, s, load, 4)
	mustCount(t, d, 4, leftMany, 0)
}

// What is handed out is memory of its own; what was handed in is the caller's.
func TestLoadIsOwn(t *testing.T) {
	_, left, right := onto(t, imageOf(t, slotOf(t, 4, []byte("opened")), slot{}))
	s := mustOpen(t, left, right)
	one, _, _ := s.Load()
	two, _, _ := s.Load()
	one[0] = 'x'
	if !bytes.Equal(two, []byte("opened")) {
		t.Fatalf("%q", two)
	}
	mustLoad(t, s, []byte("opened"), 4)
	load := []byte("saved")
	mustSave(t, s, load, 5)
	load[0] = 'x'
	mustLoad(t, s, []byte("saved"), 5)
	one, _, _ = s.Load()
	one[0] = 'x'
	if one = append(one[:1], "more than it was"...); len(one) == 0 {
		t.Fatal(one)
	}
	mustLoad(t, s, []byte("saved"), 5)
	mustLoad(t, mustOpen(t, left, right), []byte("saved"), 5)
}

// P10.1 and P10.2: slots that are none.
func TestNone(t *testing.T) {
	for _, s := range []*slots.Slots{nil, {}, new(slots.Slots)} {
		for _, many := range []int{0, 1, 128, api.MaxSaved, api.MaxSaved + 1, 1 << 16} {
			mustNotLoad(t, s)
			mustSay(t, "Save", s.Save(make([]byte, many)), api.ErrNil)
		}
		mustSay(t, "Save", s.Save(nil), api.ErrNil)
		mustNotLoad(t, s)
	}
}

// P10.2: what is saved.

// states are images from which is saved, with which slot the next one goes to, and of which number.
func states(t *testing.T) []state {
	t.Helper()
	old, new := []byte("old"), bytes.Repeat([]byte("new"), 60)
	bad := flawed(t, turnedBytes, 9, new)
	return []state{
		{imageOf(t, slot{}, slot{}), leftAt, 1, nil},
		{imageOf(t, bad, bad), leftAt, 1, nil},
		{imageOf(t, slot{}, bad), leftAt, 1, nil},
		{imageOf(t, slotOf(t, 1, new), slot{}), rightAt, 2, new},
		{imageOf(t, slotOf(t, 6, new), bad), rightAt, 7, new},
		{imageOf(t, bad, slotOf(t, 6, new)), leftAt, 7, new},
		{imageOf(t, slotOf(t, 256, old), slotOf(t, 255, new)), rightAt, 257, old},
		{imageOf(t, slotOf(t, 254, old), slotOf(t, 255, new)), leftAt, 256, new},
		{imageOf(t, slotOf(t, 5, old), slotOf(t, 5, new)), rightAt, 6, old},
		{imageOf(t, slotOf(t, 0, new), slotOf(t, 0, old)), rightAt, 1, new},
		{imageOf(t, slot{}, slotOf(t, 0, new)), leftAt, 1, new},
		{imageOf(t, slotOf(t, most-1, new), slotOf(t, 7, old)), rightAt, most, new},
		{imageOf(t, slotOf(t, 7, old), slotOf(t, most-1, new)), leftAt, most, new},
	}
}

type state struct {
	image    []byte
	to, next int    // the first sector of the slot that is saved to, and the number
	newest   []byte // what is there ahead of that, if there is
}

// stepsOf are the images of a disk behind each operation of a save, if all that waits were kept, and how many pieces wait then.
func stepsOf(t *testing.T, s state, load []byte) (images [][]byte, waits []int) {
	t.Helper()
	image := bytes.Clone(s.image)
	many := 0
	note := func(wait int) {
		images = append(images, bytes.Clone(image))
		waits = append(waits, wait)
	}
	put(image, s.to, sector{})
	note(1)
	note(0)
	full := append(bytes.Clone(load), make([]byte, api.MaxSaved)...)
	for n := range needs(len(load)) {
		put(image, s.to+1+n, sector(full[n*size:]))
		many++
		note(many)
	}
	note(0)
	put(image, s.to, headOf(t, s.next, len(load), sumOf(load)))
	note(1)
	note(0)
	return images, waits
}

// edges are lengths of what is saved.
func edges() []int {
	return []int{0, 1, 2, 127, 128, 129, 255, 256, 257, 383, 384, 385, 511, 512}
}

// What is done, operation by operation, by the power going with each of them: what it was wrote, and what waits then; a flush is told by what is kept though nothing of what waits is.
func TestSaveStepByStep(t *testing.T) {
	l := lot(5)
	for _, s := range states(t) {
		for _, many := range edges() {
			load := l.bytes(many)
			images, waits := stepsOf(t, s, load)
			for cut := range len(images) + 1 {
				mustSaveCut(t, s, load, images, waits, cut)
			}
		}
	}
}

// mustSaveCut saves with the power going behind so many operations.
func mustSaveCut(t *testing.T, s state, load []byte, images [][]byte, waits []int, cut int) {
	t.Helper()
	for _, keep := range []byte{0, size, 255} {
		d, left, right := onto(t, s.image)
		it := mustOpen(t, left, right)
		reads := d.Meter().Count(api.MeterRead)
		d.Cut(cut)
		if cut == len(images) {
			mustSave(t, it, load, s.next)
			mustCount(t, d, reads, 2+needs(len(load)), 3)
			mustKeep(t, d, images[cut-1], 0)
			return
		}
		mustNotSave(t, it, load, api.ErrPower)
		flush := waits[cut] == 0
		wait := waits[cut]
		if flush { // what was to be kept by it waits on
			wait = waits[cut-min(cut, 1)]
		}
		mustKeepWaiting(t, d, wait)
		mustNotSave(t, it, load, api.ErrPower) // it is off now: nothing is done
		mustKeepWaiting(t, d, wait)
		d.Crash(bytes.Repeat([]byte{keep}, wait))
		if keep > 0 {
			mustKeep(t, d, images[cut], 0)
		} else {
			mustKeep(t, d, flushed(s, images, waits, cut), 0)
		}
		mustLoadAsIn(t, it, s)
	}
}

// flushed is what is kept for certain, if the power goes with an operation: what the last flush ahead of it kept.
func flushed(s state, images [][]byte, waits []int, cut int) []byte {
	for at := cut - 1; at >= 0; at-- {
		if waits[at] == 0 {
			return images[at]
		}
	}
	return s.image
}

// mustKeepWaiting holds how many pieces wait on a disk whose power is off.
func mustKeepWaiting(t *testing.T, d *disk.Disk, many int) {
	t.Helper()
	if d.On() || d.Waits() != many {
		t.Fatalf("On %v, %d pieces wait, not %d", d.On(), d.Waits(), many)
	}
}

// mustKeep holds a disk's image, and how many pieces wait.
func mustKeep(t *testing.T, d *disk.Disk, image []byte, waits int) {
	t.Helper()
	if d.Waits() != waits {
		t.Fatalf("%d pieces wait, not %d", d.Waits(), waits)
	}
	got := d.Image()
	for n := range sectors {
		if a, b := sector(got[n*size:]), sector(image[n*size:]); a != b {
			t.Fatalf("sector %d is kept as %x, not as %x", n, a, b)
		}
	}
}

// mustLoadAsIn holds that the newest slot is that of a state.
func mustLoadAsIn(t *testing.T, it *slots.Slots, s state) {
	t.Helper()
	if s.newest == nil {
		mustNotLoad(t, it)
	} else {
		mustLoad(t, it, s.newest, s.next-1)
	}
}

// Loads of each length, one behind the other: the slots come in turn, and the numbers one by one. The bytes behind a load's last one, in its sector, are noughts, and those behind that stay.
func TestSaveInTurn(t *testing.T) {
	l := lot(6)
	d, left, right := onto(t, imageOf(t, slot{}, slot{}))
	s := mustOpen(t, left, right)
	want := d.Image()
	number, writes := 0, 0
	for range 2 {
		for at := range api.MaxSaved + 1 {
			load := bytes.Repeat([]byte{255}, at*37%(api.MaxSaved+1)) // no nought, and neither longer nor shorter each time
			if at%3 == 0 {
				load = l.bytes(len(load))
			}
			number++
			to := leftAt
			if number%2 == 0 {
				to = rightAt
			}
			images, _ := stepsOf(t, state{image: want, to: to, next: number}, load)
			want = images[len(images)-1]
			mustSave(t, s, load, number)
			mustKeep(t, d, want, 0)
			writes += 2 + needs(len(load))
			mustCount(t, d, 2, writes, 3*number)
			if at%50 == 0 {
				_, a, b := onto(t, d.Image())
				mustLoad(t, mustOpen(t, a, b), load, number)
			}
		}
	}
}

// What is too long, and what has no number any more: nothing is done, whatever the power.
func TestSaveOfWhatMayNotBe(t *testing.T) {
	newest := []byte("newest")
	images := [][]byte{
		imageOf(t, slotOf(t, most, newest), slotOf(t, most-1, nil)),
		imageOf(t, slotOf(t, 1, nil), slotOf(t, most, newest)),
		imageOf(t, slotOf(t, most, newest), slotOf(t, most, nil)),
		imageOf(t, slot{}, slotOf(t, most, newest)),
	}
	for _, s := range states(t) {
		images = append(images, s.image)
	}
	for at, image := range images {
		for _, many := range []int{0, 1, api.MaxSaved - 1, api.MaxSaved, api.MaxSaved + 1, api.MaxSaved + 2, api.MaxSaved + 128, 1 << 16} {
			if at >= 4 && many <= api.MaxSaved {
				continue
			}
			d, left, right := onto(t, image)
			s := mustOpen(t, left, right)
			counts := d.Meter().All()
			for range 2 {
				mustNotSave(t, s, make([]byte, many), api.ErrLimit)
				mustKeep(t, d, image, 0)
				off(t, d)
				mustNotSave(t, s, make([]byte, many), api.ErrLimit)
				d.Crash(nil)
			}
			if !slices.Equal(d.Meter().All(), counts) {
				t.Fatal("something was done")
			}
		}
	}
}

// The last number that may be is saved, and then no more, till there is a slot of another number.
func TestSaveToTheLastNumber(t *testing.T) {
	_, left, right := onto(t, imageOf(t, slotOf(t, most-3, nil), slotOf(t, most-2, []byte("a"))))
	s := mustOpen(t, left, right)
	mustSave(t, s, []byte("b"), most-1)
	mustSave(t, s, []byte("c"), most)
	mustNotSave(t, s, []byte("d"), api.ErrLimit)
	s = mustOpen(t, left, right)
	mustLoad(t, s, []byte("c"), most)
	mustNotSave(t, s, nil, api.ErrLimit)
	mustSay(t, "Wipe", right.Wipe(0), api.OK)
	s = mustOpen(t, left, right)
	mustLoad(t, s, []byte("b"), most-1)
	mustSave(t, s, []byte("e"), most)
	mustNotSave(t, s, nil, api.ErrLimit)
	mustSay(t, "Wipe", left.Wipe(0), api.OK)
	mustSay(t, "Wipe", right.Wipe(0), api.OK)
	mustNotSave(t, s, nil, api.ErrLimit) // they were opened as they were
	s = mustOpen(t, left, right)
	mustSave(t, s, []byte("f"), 1)
}

// A disk that hasn't room for all sectors: what was done ahead of the error stays, the newest is what it was, and what is saved next goes to the same slot.
func TestSaveWithoutRoom(t *testing.T) {
	for _, many := range edges() {
		load := bytes.Repeat([]byte{9}, many)
		for room := range 1 + needs(many) + 1 {
			d, e := disk.New(sectors, room)
			mustSay(t, "disk.New", e, api.OK)
			left, right := areasOf(t, d)
			s := mustOpen(t, left, right)
			if room == 1+needs(many) {
				mustSave(t, s, load, 1)
				continue
			}
			mustNotSave(t, s, load, api.ErrFull)
			images, waits := stepsOf(t, state{image: make([]byte, sectors*size), to: leftAt, next: 1}, load)
			if room == 0 {
				mustCount(t, d, 2, 0, 0)
				mustKeep(t, d, make([]byte, sectors*size), 0)
				continue
			}
			mustCount(t, d, 2, room, 1)
			if d.Left() != 0 {
				t.Fatal(d.Left())
			}
			mustKeep(t, d, images[1], waits[room])
			d.Crash(bytes.Repeat([]byte{size}, waits[room]))
			mustKeep(t, d, images[room], 0)
			mustSave(t, s, load[:(room-1)*size], 1)
			mustNotSave(t, s, nil, api.ErrFull) // the right slot's head has no room
			mustLoad(t, mustOpen(t, left, right), load[:(room-1)*size], 1)
		}
	}
}

// Behind a save that told an error, the same slot is saved to, with the same number, be it by the same slots, or by ones that are opened anew.
func TestSaveBehindAnError(t *testing.T) {
	load, more := bytes.Repeat([]byte("load"), 60), []byte("more")
	for _, s := range states(t) {
		images, _ := stepsOf(t, s, load)
		for cut := range len(images) - 2 { // of what is kept by then no head is whole
			for _, anew := range []bool{false, true} {
				d, left, right := onto(t, s.image)
				it := mustOpen(t, left, right)
				d.Cut(cut)
				mustNotSave(t, it, load, api.ErrPower)
				d.Crash([]byte{3, 50, 90, 120})
				if anew {
					it = mustOpen(t, left, right)
					mustLoadAsIn(t, it, s)
				}
				was := d.Image()
				mustSave(t, it, more, s.next)
				images, _ := stepsOf(t, state{image: was, to: s.to, next: s.next}, more)
				mustKeep(t, d, images[len(images)-1], 0)
			}
		}
	}
}

// Slots on two disks: what is written to one is flushed there.
func TestSaveOnTwoDisks(t *testing.T) {
	d, left, _ := onto(t, nil)
	other, _, right := onto(t, nil)
	s := mustOpen(t, left, right)
	mustSave(t, s, []byte("one"), 1)
	mustCount(t, d, 1, 3, 3)
	mustCount(t, other, 1, 0, 0)
	mustSave(t, s, []byte("two"), 2)
	mustCount(t, d, 1, 3, 3)
	mustCount(t, other, 1, 3, 3)
	off(t, other)
	mustSave(t, s, []byte("three"), 3) // the other disk isn't asked for
	mustNotSave(t, s, []byte("four"), api.ErrPower)
	other.Crash(nil)
	d.Crash(nil)
	mustLoad(t, mustOpen(t, left, right), []byte("three"), 3)
}

// One area as both slots is no error: the one that is saved to is what stands there then.
func TestOneAreaTwice(t *testing.T) {
	d, left, _ := onto(t, imageOf(t, slotOf(t, 5, []byte("old")), slot{}))
	s := mustOpen(t, left, left)
	mustLoad(t, s, []byte("old"), 5)
	mustCount(t, d, 4, 0, 0)
	for n, load := range [][]byte{[]byte("a"), []byte("b"), []byte("c")} {
		mustSave(t, s, load, 6+n)
		mustLoad(t, mustOpen(t, left, left), load, 6+n)
	}
	d.Cut(1)
	mustNotSave(t, s, []byte("d"), api.ErrPower)
	d.Crash([]byte{size})
	mustLoad(t, s, []byte("c"), 8)
	mustNotLoad(t, mustOpen(t, left, left))
}

// P10.3: what is there behind crashes.

// item is what was saved, or was to be; of number 0: nothing.
type item struct {
	number int
	load   []byte
}

func (i item) is(other item) bool {
	return i.number == other.number && bytes.Equal(i.load, other.load)
}

// newestOf is what slots have.
func newestOf(t *testing.T, s *slots.Slots) item {
	t.Helper()
	load, number, ok := s.Load()
	if ok != (number > 0) { // here no slot of number 0 is whole
		t.Fatalf("Load = %x, %d, %v", load, number, ok)
	}
	return item{number, load}
}

// ledger is what was saved last, and what was to be saved behind it, if the power went then.
type ledger struct {
	last, then item
}

// save saves a load, of which the ledger keeps what came of it.
func (g *ledger) save(t *testing.T, s *slots.Slots, load []byte) api.Errno {
	t.Helper()
	g.then = item{g.last.number + 1, bytes.Clone(load)}
	e := s.Save(load)
	if e == api.OK {
		g.last, g.then = g.then, item{}
	}
	if got := newestOf(t, s); !got.is(g.last) {
		t.Fatalf("%v is there, not %v, as it was saved last", got, g.last)
	}
	return e
}

// mustAllow holds that slots have what was saved last, or what was to be saved then, and is that.
func (g ledger) mustAllow(t *testing.T, s *slots.Slots) item {
	t.Helper()
	got := newestOf(t, s)
	if !got.is(g.last) && (g.then.number == 0 || !got.is(g.then)) {
		t.Fatalf("%v is there, where %v was saved last, and %v was to be saved then", got, g.last, g.then)
	}
	return got
}

// mustOpenAgain opens the slots behind a crash, as the power is about to go, crashes again, and opens them again: nothing is changed by that. It is what they have.
func (g ledger) mustOpenAgain(t *testing.T, d *disk.Disk) item {
	t.Helper()
	left, right := areasOf(t, d)
	image := d.Image()
	d.Cut(0)
	got := g.mustAllow(t, mustOpen(t, left, right))
	if !d.On() {
		t.Fatal("an operation was done by an opening")
	}
	mustSay(t, "Flush", d.Flush(), api.ErrPower)
	mustNotOpen(t, left, right, api.ErrPower)
	d.Crash([]byte{size})
	mustKeep(t, d, image, 0)
	if again := g.mustAllow(t, mustOpen(t, left, right)); !again.is(got) {
		t.Fatalf("%v is there, not %v, as it was", again, got)
	}
	return got
}

// choices are what is tried where so many pieces wait: all that there are of one.
func choices(many int) [][]byte {
	switch {
	case many < 2:
		var each []byte
		for c := range 256 {
			each = append(each, byte(c))
		}
		return lists(many, each...)
	case many < 4:
		return lists[byte](many, 0, 1, 60, 127, 128)
	}
	return lists[byte](many, 0, 100, 255)
}

// fewer are those that are tried behind an earlier crash.
func fewer(many int) [][]byte {
	return lists[byte](many, 0, 20, 128)
}

// saves are loads to be saved one behind the other.
func saves(l *lot, lengths ...int) [][]byte {
	var loads [][]byte
	for _, many := range lengths {
		loads = append(loads, l.bytes(many))
	}
	return loads
}

// The power goes at each operation of some saves over what stands there already, and all choices are tried; behind each the power goes again, at each operation of one more save.
func TestCrashes(t *testing.T) {
	l := lot(7)
	old, new := l.bytes(300), l.bytes(20)
	starts := [][]byte{
		imageOf(t, slot{}, slot{}),
		imageOf(t, slotOf(t, 1, old), slot{}),
		imageOf(t, slotOf(t, 4, old), slotOf(t, 3, new)),
		imageOf(t, slotOf(t, 8, old), slotOf(t, 8, new)),
		imageOf(t, flawed(t, turnedBytes, 90, old), slotOf(t, 8, new)),
		imageOf(t, flawed(t, tornHead, 90, old), flawed(t, otherSum, 80, new)),
	}
	for _, image := range starts {
		for _, lengths := range [][]int{{3, 0, 130}, {129, 1}, {512}, {384}} {
			d, left, right := onto(t, image)
			g := ledger{last: newestOf(t, mustOpen(t, left, right))}
			mustSurvive(t, g, d.Image(), saves(&l, lengths...), choices, func(g ledger, image []byte) {
				mustSurvive(t, g, image, saves(&l, 150), fewer, func(g ledger, image []byte) {
					mustGoOn(t, g, image)
				})
			})
		}
	}
}

// mustSurvive saves the loads with the power going behind so many operations, for all that there are, crashes with each choice, and opens again; what is kept then, each image once, is handed on.
func mustSurvive(t *testing.T, g ledger, image []byte, loads [][]byte, choices func(int) [][]byte, behind func(ledger, []byte)) {
	t.Helper()
	begin := func(cut int) (*disk.Disk, ledger) {
		d, left, right := onto(t, image)
		s, g := mustOpen(t, left, right), g
		d.Cut(cut)
		for at := 0; at < len(loads) && d.On(); at++ {
			want := api.OK
			e := g.save(t, s, loads[at])
			if !d.On() {
				want = api.ErrPower
			}
			mustSay(t, "Save", e, want)
		}
		return d, g
	}
	seen := map[string]bool{}
	for cut, went := 0, true; went; cut++ {
		d, _ := begin(cut)
		went = !d.On()
		for _, c := range choices(d.Waits()) {
			d, g := begin(cut)
			d.Crash(c)
			if key := string(d.Image()); !seen[key] {
				seen[key] = true
				got := g.mustOpenAgain(t, d)
				behind(ledger{last: got}, d.Image())
			}
		}
	}
}

// mustGoOn saves twice more, so that either slot is saved to, with a crash behind each.
func mustGoOn(t *testing.T, g ledger, image []byte) {
	t.Helper()
	d, left, right := onto(t, image)
	s := mustOpen(t, left, right)
	g.mustAllow(t, s)
	for _, load := range []string{"more", "most"} {
		mustSay(t, "Save", g.save(t, s, []byte(load)), api.OK)
		d.Crash(nil)
		s = mustOpen(t, left, right)
		g.mustAllow(t, s)
	}
}

// Of both that may be there behind a crash: till the head is put it is what was saved last, and once it is kept whole what was to be saved.
func TestWhichOfBoth(t *testing.T) {
	last, then := []byte("last"), bytes.Repeat([]byte("then"), 40)
	for _, to := range []int{leftAt, rightAt} {
		image := imageOf(t, slotOf(t, 2, []byte("older")), slotOf(t, 3, last))
		if to == rightAt {
			image = imageOf(t, slotOf(t, 3, last), slotOf(t, 2, []byte("older")))
		}
		for cut := range 7 { // wipe, flush, write, write, flush, put, flush
			for keep := range 256 {
				d, left, right := onto(t, image)
				s := mustOpen(t, left, right)
				d.Cut(cut)
				mustNotSave(t, s, then, api.ErrPower)
				d.Crash(bytes.Repeat([]byte{byte(keep)}, d.Waits()))
				if s := mustOpen(t, left, right); cut >= 5 && keep >= size {
					mustLoad(t, s, then, 4)
				} else {
					mustLoad(t, s, last, 3)
				}
			}
		}
	}
}

// All promises at once: long runs of calls, held against the words, and against a list of what was saved.

// start is a pair on disks with more or less on them, and with more or less room.
func start(t *testing.T, l *lot) *pair {
	t.Helper()
	number := 1 + l.below(300)
	what := func() slot {
		kind := whole
		if l.below(2) == 0 {
			kind = l.below(kinds)
		}
		return flawed(t, kind, number+l.below(3)-1, l.bytes(1+l.below(api.MaxSaved)))
	}
	image := imageOf(t, what(), what())
	room := sectors
	if l.below(3) == 0 {
		room = l.below(sectors + 1)
		image = image[:l.below(room+1)*size]
	}
	return mustPair(t, image, room)
}

// chosen are choices for what waits, and perhaps one more.
func chosen(l *lot, waits int) []byte {
	c := l.bytes(l.below(waits + 2))
	for at := range c {
		switch l.below(4) {
		case 0:
			c[at] = 0
		case 1:
			c[at] = size
		}
	}
	return c
}

// record is a list of all that was saved, the last one behind, and what was to be saved as the power went.
type record struct {
	list []item
	then *item
}

// opened holds what is opened against the list; it is saved now, if it wasn't.
func (r *record) opened(t *testing.T, p *pair) {
	t.Helper()
	load, number, ok := p.s.Load()
	got := item{number, load}
	switch {
	case r.then != nil && ok && got.is(*r.then):
		r.list = append(r.list, got)
	case len(r.list) == 0 && !ok:
	case len(r.list) == 0 || !ok || !got.is(r.list[len(r.list)-1]):
		t.Fatalf("%v, %v is there, where %v were saved", got, ok, r.list)
	}
	r.then = nil
}

// save saves, and keeps what was, or was to be.
func (r *record) save(t *testing.T, l *lot, p *pair) {
	t.Helper()
	load, on, number := l.bytes(l.length()), p.d.On(), 1
	if len(r.list) > 0 {
		number += r.list[len(r.list)-1].number
	}
	switch e := p.save(t, load); {
	case e == api.OK:
		r.list = append(r.list, item{number, load})
	case e == api.ErrPower && on:
		r.then = &item{number, load}
	}
}

func TestLongRuns(t *testing.T) {
	for run := range 1500 {
		l := lot(run)
		p := start(t, &l)
		mustSay(t, "Open", p.open(t), api.OK)
		var r record
		if load, number, ok := p.s.Load(); ok {
			r.list = []item{{number, load}}
		}
		for range 80 {
			switch what := l.below(20); {
			case what < 4:
				p.cut(l.below(14) - 4)
			case what < 6 || !p.d.On() && what < 14:
				p.crash(chosen(&l, p.d.Waits()))
				p.s = nil
			case what < 8 || p.s == nil:
				if p.open(t) == api.OK {
					r.opened(t, p)
				}
			default:
				r.save(t, &l, p)
			}
			p.mustBeAlike(t)
		}
		p.mustReadAlike(t)
	}
}

// Slots that stay behind crashes, and areas into which others write: all is as the words say.
func TestLongRunsOfOldOnes(t *testing.T) {
	for run := range 1500 {
		l := lot(run)
		p := start(t, &l)
		mustSay(t, "Open", p.open(t), api.OK)
		for range 80 {
			switch what := l.below(20); {
			case what < 3:
				p.cut(l.below(14) - 4)
			case what < 5 || !p.d.On() && what < 14:
				p.crash(chosen(&l, p.d.Waits()))
			case what < 6 || p.s == nil:
				p.open(t)
			case what < 9:
				s := flawed(t, l.below(kinds), l.below(300), l.bytes(1+l.below(api.MaxSaved)))
				n := l.below(leftMany)
				mustSay(t, "Write", p.left.Write(n, s[n]), p.w.d.Write(leftAt+n, s[n]))
			default:
				p.save(t, l.bytes(l.length()))
			}
			p.mustBeAlike(t)
		}
		p.mustReadAlike(t)
	}
}
