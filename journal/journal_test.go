package journal_test

import (
	"bytes"
	"math"
	"slices"
	"strconv"
	"testing"

	"tompion/api"
	"tompion/area"
	"tompion/disk"
	"tompion/journal"
	"tompion/seal"
)

const (
	least = math.MinInt
	most  = math.MaxInt
	size  = api.Sector
	kind  = api.KindLog
	first = 2 // the first sector of the areas here: two are ahead of them
	tail  = 2 // and so many behind them
)

type sector = [size]byte

// lot draws numbers that are the same at each run.
type lot uint64

func (l *lot) below(n int) int {
	*l = *l*6364136223846793005 + 1442695040888963407
	return int(uint64(*l)>>33) % n
}

func (l *lot) bytes(many int) []byte {
	b := make([]byte, many)
	for at := range b {
		b[at] = byte(l.below(256))
	}
	return b
}

// mustSay holds an error's number.
func mustSay(t *testing.T, what string, got, want api.Errno) {
	t.Helper()
	if got != want {
		t.Fatalf("%s: error %d, not %d", what, got, want)
	}
}

// sealed is a record as it must stand, or a sealed sector that is none.
func sealed(t *testing.T, kind, number int, load []byte) sector {
	t.Helper()
	b, e := seal.Make(kind, number, load)
	if e != api.OK {
		t.Fatalf("seal.Make(%d, %d, %x): error %d", kind, number, load, e)
	}
	return b
}

// torn is the first bytes of a sector over another one.
func torn(b, over sector, many int) sector {
	copy(over[:], b[:many])
	return over
}

// onto is a disk that has so much on it, and room for all; and the area behind its first sectors.
func onto(t *testing.T, image []byte, many int) (*disk.Disk, *area.Area) {
	t.Helper()
	sectors := first + many + tail
	d, e := disk.Load(image, sectors, sectors)
	mustSay(t, "disk.Load", e, api.OK)
	a, e := area.New(d, api.Span{First: first, Many: many})
	mustSay(t, "area.New", e, api.OK)
	return d, a
}

// mustOpen is a journal that there must be, with so many records, and room for so many more.
func mustOpen(t *testing.T, a *area.Area, kind, many, room int) *journal.Journal {
	t.Helper()
	j, e := journal.Open(a, kind)
	if e != api.OK || j == nil {
		t.Fatalf("Open(%d sectors, %d) = %v, %d", a.Many(), kind, j, e)
	}
	mustHave(t, j, many, room)
	return j
}

// mustNotOpen holds why there is no journal.
func mustNotOpen(t *testing.T, a *area.Area, kind int, want api.Errno) {
	t.Helper()
	if j, e := journal.Open(a, kind); e != want || j != nil {
		t.Fatalf("Open(%d sectors, %d) = %v, %d, not %d", a.Many(), kind, j, e, want)
	}
}

// mustHave holds how many records there are, and may be.
func mustHave(t *testing.T, j *journal.Journal, many, room int) {
	t.Helper()
	if j.Len() != many || j.Room() != room {
		t.Fatalf("Len %d, Room %d, not %d, %d", j.Len(), j.Room(), many, room)
	}
}

// mustAdd adds a record, whose number must be that.
func mustAdd(t *testing.T, j *journal.Journal, load []byte, want int) {
	t.Helper()
	if n, e := j.Add(load); e != api.OK || n != want {
		t.Fatalf("Add(%x) = %d, %d, not %d", load, n, e, want)
	}
}

// mustNotAdd holds why a record isn't added; and that there are as many as before.
func mustNotAdd(t *testing.T, j *journal.Journal, load []byte, want api.Errno) {
	t.Helper()
	many, room := j.Len(), j.Room()
	if n, e := j.Add(load); e != want || n != 0 {
		t.Fatalf("Add(%d bytes) = %d, %d, not %d", len(load), n, e, want)
	}
	mustHave(t, j, many, room)
}

// mustGet holds a record's load.
func mustGet(t *testing.T, j *journal.Journal, n int, want []byte) {
	t.Helper()
	if load, e := j.Get(n); e != api.OK || !bytes.Equal(load, want) {
		t.Fatalf("Get(%d) = %x, %d, not %x", n, load, e, want)
	}
}

// mustNotGet holds why there is no load.
func mustNotGet(t *testing.T, j *journal.Journal, n int, want api.Errno) {
	t.Helper()
	if load, e := j.Get(n); e != want || len(load) != 0 {
		t.Fatalf("Get(%d) = %x, %d, not %d", n, load, e, want)
	}
}

// mustCount holds how many reads, writes and flushes there were.
func mustCount(t *testing.T, d *disk.Disk, reads, writes, flushes int) {
	t.Helper()
	if got := d.Meter().All(); !slices.Equal(got, []int{reads, writes, flushes, 0, 0, 0}) {
		t.Fatalf("the meter has %v, not %d, %d, %d", got, reads, writes, flushes)
	}
}

// A journal by the chapter's words, on a disk of its own, which is given the same as the journal's.

type said struct {
	d          *disk.Disk
	span       api.Span
	kind, many int
}

// stands is whether a sector is a record of that number.
func (w *said) stands(b sector, n int) bool {
	number, _, e := seal.Open(b, w.kind)
	return e == api.OK && number == n
}

func (w *said) open() api.Errno {
	sectors := make([]sector, w.span.Many)
	for n := range sectors {
		b, e := w.d.Read(w.span.First + n)
		if e != api.OK {
			return e
		}
		sectors[n] = b
	}
	for w.many = 0; w.many < len(sectors) && w.stands(sectors[w.many], w.many); {
		w.many++
	}
	odd := 0
	for n := w.many; n < len(sectors); n++ {
		if sectors[n] == (sector{}) {
			continue
		}
		odd++
		if e := w.d.Write(w.span.First+n, sector{}); e != api.OK {
			return e
		}
	}
	if odd == 0 {
		return api.OK
	}
	return w.d.Flush()
}

func (w *said) get(n int) ([]byte, api.Errno) {
	if n < 0 || n >= w.many {
		return nil, api.ErrNone
	}
	b, e := w.d.Read(w.span.First + n)
	if e != api.OK {
		return nil, e
	}
	if !w.stands(b, n) {
		return nil, api.ErrSeal
	}
	_, load, e := seal.Open(b, w.kind)
	return load, e
}

func (w *said) add(t *testing.T, load []byte) (int, api.Errno) {
	if len(load) > api.MaxLoad {
		return 0, api.ErrLimit
	}
	if w.many == w.span.Many {
		return 0, api.ErrFull
	}
	e := w.d.Write(w.span.First+w.many, sealed(t, w.kind, w.many, load))
	if e != api.OK {
		return 0, e
	}
	w.many++
	return w.many - 1, api.OK
}

// pair is a disk with a journal, and the same by the words.
type pair struct {
	d *disk.Disk
	a *area.Area
	j *journal.Journal // nil, if none was opened
	w said
}

// mustPair is two disks that are alike, with no journal opened yet.
func mustPair(t *testing.T, image []byte, sectors, room int, s api.Span, kind int) *pair {
	t.Helper()
	d, e := disk.Load(image, sectors, room)
	mustSay(t, "disk.Load", e, api.OK)
	other, e := disk.Load(image, sectors, room)
	mustSay(t, "disk.Load", e, api.OK)
	a, e := area.New(d, s)
	mustSay(t, "area.New", e, api.OK)
	return &pair{d: d, a: a, w: said{d: other, span: s, kind: kind}}
}

// open opens the journal on both disks, and is what was told.
func (p *pair) open(t *testing.T) api.Errno {
	t.Helper()
	j, e := journal.Open(p.a, p.w.kind)
	mustSay(t, "Open", e, p.w.open())
	if (j == nil) != (e != api.OK) {
		t.Fatalf("Open = %v, %d", j, e)
	}
	p.j = j
	return e
}

func (p *pair) get(t *testing.T, n int) {
	t.Helper()
	if load, e := p.w.get(n); e != api.OK {
		mustNotGet(t, p.j, n, e)
	} else {
		mustGet(t, p.j, n, load)
	}
}

func (p *pair) add(t *testing.T, load []byte) api.Errno {
	t.Helper()
	n, e := p.w.add(t, load)
	if e != api.OK {
		mustNotAdd(t, p.j, load, e)
	} else {
		mustAdd(t, p.j, load, n)
	}
	return e
}

func (p *pair) flush(t *testing.T) api.Errno {
	t.Helper()
	e := p.j.Flush()
	mustSay(t, "Flush", e, p.w.d.Flush())
	return e
}

func (p *pair) cut(n int) {
	p.d.Cut(n)
	p.w.d.Cut(n)
}

func (p *pair) crash(choices []byte) {
	p.d.Crash(choices)
	p.w.d.Crash(choices)
	p.j = nil
}

// mustBeAlike holds all that the disks and the journal tell.
func (p *pair) mustBeAlike(t *testing.T) {
	t.Helper()
	if p.j != nil {
		mustHave(t, p.j, p.w.many, p.w.span.Many-p.w.many)
	}
	if p.d.Left() != p.w.d.Left() || p.d.Waits() != p.w.d.Waits() || p.d.On() != p.w.d.On() {
		t.Fatalf("Left %d, Waits %d, On %v, not %d, %d, %v", p.d.Left(), p.d.Waits(), p.d.On(), p.w.d.Left(), p.w.d.Waits(), p.w.d.On())
	}
	if got, want := p.d.Meter().All(), p.w.d.Meter().All(); !slices.Equal(got, want) {
		t.Fatalf("the meter has %v, not %v", got, want)
	}
	if !bytes.Equal(p.d.Image(), p.w.d.Image()) {
		t.Fatal("another image than it should be")
	}
}

// mustReadAlike holds all sectors of both disks, as they are read.
func (p *pair) mustReadAlike(t *testing.T) {
	t.Helper()
	for n := range p.d.Size() {
		got, e := p.d.Read(n)
		if want, w := p.w.d.Read(n); got != want || e != w {
			t.Fatalf("sector %d is %x, %d, not %x, %d", n, got, e, want, w)
		}
	}
}

// What may stand in a sector.
const (
	blank       = iota
	record      // of this journal, and of this sector
	otherNumber // that of the sector behind it
	otherKind
	tornOne   // the first bytes of a record
	turnedOne // a record with a bit turned
	noRecord  // a byte at the end
	fillings
)

func fill(t *testing.T, what, n int) sector {
	load := []byte{byte(what), byte(n), 0, 7}
	b := sealed(t, kind, n, load)
	switch what {
	case blank:
		return sector{}
	case otherNumber:
		return sealed(t, kind, n+1, load)
	case otherKind:
		return sealed(t, kind+1, n, load)
	case tornOne:
		return torn(b, sector{}, size-1-n)
	case turnedOne:
		b[13] ^= 1
	case noRecord:
		return torn(sector{}, sector{size - 1: 1}, size-1)
	}
	return b
}

// filled is the image of a disk whose area has in each sector what is told, among sectors that would be records, if the area were longer, or began elsewhere.
func filled(t *testing.T, what ...int) []byte {
	t.Helper()
	var image []byte
	put := func(b sector) { image = append(image, b[:]...) }
	for n := range first {
		put(sealed(t, kind, n, []byte("ahead")))
	}
	for n, w := range what {
		put(fill(t, w, n))
	}
	for n := range tail {
		put(sealed(t, kind, len(what)+n, []byte("behind")))
	}
	return image
}

// lists are all lists of so many items, each of which is one of these.
func lists[T any](many int, each ...T) [][]T {
	out := [][]T{nil}
	for range many {
		var longer [][]T
		for _, l := range out {
			for _, c := range each {
				longer = append(longer, append(slices.Clone(l), c))
			}
		}
		out = longer
	}
	return out
}

// ahead is how many records stand from 0 on without a gap, and how many sectors behind them aren't blank.
func ahead(what []int) (many, odd int) {
	for many < len(what) && what[many] == record {
		many++
	}
	for _, w := range what[many:] {
		if w != blank {
			odd++
		}
	}
	return many, odd
}

// P9.1: what is opened.

// The chapter's example.
func TestExample(t *testing.T) {
	d, a := onto(t, filled(t, record, tornOne, record), 3)
	was := d.Image()
	j := mustOpen(t, a, kind, 1, 2)
	for n := range first + 3 + tail {
		want := sector(was[n*size:])
		if n == first+1 || n == first+2 {
			want = sector{}
		}
		if b := sector(d.Image()[n*size:]); b != want {
			t.Fatalf("sector %d is kept as %x", n, b)
		}
	}
	mustGet(t, j, 0, []byte{record, 0, 0, 7})
	mustNotGet(t, j, 1, api.ErrNone)
}

// Whatever stands in an area, and wherever the power goes while it is opened, all is done as the words say; what waits then is kept in part, by which the order is seen.
func TestOpen(t *testing.T) {
	for many := 1; many <= 4; many++ {
		for _, what := range lists(many, blank, record, otherNumber, otherKind, tornOne, turnedOne, noRecord) {
			image := filled(t, what...)
			records, odd := ahead(what)
			d, a := onto(t, image, many)
			mustOpen(t, a, kind, records, many-records)
			if odd == 0 {
				mustCount(t, d, many, 0, 0)
			} else {
				mustCount(t, d, many, odd, 1)
			}
			if !bytes.Equal(d.Image()[:(first+records)*size], image[:(first+records)*size]) || !bytes.Equal(d.Image()[(first+many)*size:], image[(first+many)*size:]) {
				t.Fatalf("of %v: more than what is behind the records was changed", what)
			}
			for cut := -1; cut <= odd+1; cut++ {
				mustOpenCut(t, image, many, cut)
			}
		}
	}
}

// mustOpenCut opens with the power going behind so many operations, crashes, and opens again.
func mustOpenCut(t *testing.T, image []byte, many, cut int) {
	t.Helper()
	sectors := first + many + tail
	for _, choice := range []byte{0, 9, size} {
		p := mustPair(t, image, sectors, sectors, api.Span{First: first, Many: many}, kind)
		p.cut(cut)
		p.open(t)
		p.mustBeAlike(t)
		choices := bytes.Repeat([]byte{size}, many) // but for the last piece all are kept
		choices[max(p.d.Waits()-1, 0)] = choice
		p.crash(choices)
		p.mustBeAlike(t)
		mustSay(t, "Open behind a crash", p.open(t), api.OK)
		p.mustBeAlike(t)
		p.mustReadAlike(t)
	}
}

// What is wiped is wiped in the order of the sectors: behind a cut the first ones wait, and no other ones.
func TestOrderOfWiping(t *testing.T) {
	what := []int{record, noRecord, blank, record, otherKind, blank, otherNumber, record}
	order := []int{1, 3, 4, 6, 7}
	for cut := range order {
		for piece := range cut + 1 { // the only one that is kept
			d, a := onto(t, filled(t, what...), len(what))
			d.Cut(cut)
			mustNotOpen(t, a, kind, api.ErrPower)
			mustCount(t, d, len(what), cut+1, 0)
			if d.Waits() != cut+1 || d.On() {
				t.Fatal(d.Waits(), d.On())
			}
			d.Crash(append(make([]byte, piece), size))
			for n, w := range what {
				want := fill(t, w, n)
				if n == order[piece] {
					want = sector{}
				}
				if b, e := a.Read(n); e != api.OK || b != want {
					t.Fatalf("cut %d, piece %d: sector %d is %x, %d", cut, piece, n, b, e)
				}
			}
		}
	}
	d, a := onto(t, filled(t, what...), len(what))
	d.Cut(len(order)) // the power goes with the flush
	mustNotOpen(t, a, kind, api.ErrPower)
	mustCount(t, d, len(what), len(order), 1)
	if d.Waits() != len(order) || d.On() {
		t.Fatal(d.Waits(), d.On())
	}
}

// Each length of a torn record, each bit turned, and a record of each load.
func TestOpenOfTornAndTurned(t *testing.T) {
	l := lot(1)
	for _, load := range [][]byte{nil, {0}, l.bytes(api.MaxLoad), make([]byte, api.MaxLoad)} {
		whole := sealed(t, kind, 1, load)
		for many := range size + 1 {
			mustHoldTwo(t, torn(whole, sector{}, many), many == size)
			if many > 0 && many < size { // a wipe that was torn
				mustHoldTwo(t, torn(sector{}, whole, many), false)
			}
		}
		for bit := range 8 * size {
			b := whole
			b[bit/8] ^= 1 << (bit % 8)
			mustHoldTwo(t, b, false)
		}
	}
}

// mustHoldTwo holds whether the second sector of three is a record; the others are.
func mustHoldTwo(t *testing.T, b sector, is bool) {
	t.Helper()
	image := filled(t, record, blank, record)
	copy(image[(first+1)*size:], b[:])
	d, a := onto(t, image, 3)
	if is {
		mustOpen(t, a, kind, 3, 0)
		mustCount(t, d, 3, 0, 0)
		return
	}
	mustOpen(t, a, kind, 1, 2)
	image = filled(t, record, blank, blank)
	if !bytes.Equal(d.Image(), image) {
		t.Fatalf("behind %x: another image than it should be", b)
	}
}

// Numbers are held whole: a record of a number that is another one's last bytes is not that one.
func TestOpenOfOtherNumbers(t *testing.T) {
	for n := range 3 {
		for _, number := range []int{0, 1, 2, 3, n + 256, n + 1<<16, n + 1<<32, n + 1<<40, most, most - n} {
			image := filled(t, record, record, record)
			b := sealed(t, kind, number, nil)
			copy(image[(first+n)*size:], b[:])
			_, a := onto(t, image, 3)
			if number == n {
				mustOpen(t, a, kind, 3, 0)
			} else {
				mustOpen(t, a, kind, n, 3-n)
			}
		}
	}
}

// Journals of all kinds that there may be; what is of another kind is no record.
func TestKinds(t *testing.T) {
	for k := 1; k <= 255; k++ {
		d, a := onto(t, nil, 2)
		j := mustOpen(t, a, k, 0, 2)
		mustAdd(t, j, []byte{byte(k)}, 0)
		if b, e := a.Read(0); e != api.OK || b != sealed(t, k, 0, []byte{byte(k)}) {
			t.Fatalf("of kind %d: %x, %d", k, b, e)
		}
		mustSay(t, "Flush", j.Flush(), api.OK)
		d.Crash(nil)
		mustGet(t, mustOpen(t, a, k, 1, 1), 0, []byte{byte(k)})
		mustOpen(t, a, k%255+1, 0, 2)
		mustOpen(t, a, k, 0, 2) // it was wiped
	}
}

// notKinds are kinds that may not be, some of which are one, if they go round or lose some bits.
func notKinds() []int {
	return []int{0, -1, -2, -3, -255, -256, least, least + 1, least + kind, 256, 257, 256 + kind, 1<<16 + kind, 1<<32 + kind, -256 + kind, -1<<32 + kind, most - 1, most}
}

// Of a kind that may not be nothing is done, whether the disk would answer, or not.
func TestKindsThatMayNotBe(t *testing.T) {
	image := filled(t, record, tornOne, record)
	for _, k := range notKinds() {
		d, a := onto(t, image, 3)
		mustNotOpen(t, a, k, api.ErrArg)
		d.Cut(0)
		mustNotOpen(t, a, k, api.ErrArg)
		if !d.On() {
			t.Fatal("an operation was done")
		}
		mustSay(t, "Flush", a.Flush(), api.ErrPower)
		mustNotOpen(t, a, k, api.ErrArg) // ahead of the power
		mustCount(t, d, 0, 0, 1)
		if d.Waits() != 0 || !bytes.Equal(d.Image(), image) {
			t.Fatal("something was written")
		}
	}
}

// That the area is none comes ahead of what the kind is.
func TestOpenOfNoArea(t *testing.T) {
	for _, a := range []*area.Area{nil, {}, new(area.Area)} {
		for _, k := range append(notKinds(), 1, kind, 128, 255) {
			mustNotOpen(t, a, k, api.ErrNil)
		}
	}
}

// With the power off nothing is read; with the power about to go all is, which is no operation with which it goes.
func TestOpenWithoutPower(t *testing.T) {
	for _, what := range [][]int{{blank, blank}, {record, record}, {record, blank}, {record, tornOne}, {tornOne, record}} {
		many, odd := ahead(what)
		d, a := onto(t, filled(t, what...), 2)
		d.Cut(0)
		if odd == 0 {
			mustOpen(t, a, kind, many, 2-many)
			mustCount(t, d, 2, 0, 0)
			mustSay(t, "Flush", d.Flush(), api.ErrPower)
			mustNotOpen(t, a, kind, api.ErrPower)
			mustCount(t, d, 2, 0, 1)
			continue
		}
		mustNotOpen(t, a, kind, api.ErrPower)
		mustCount(t, d, 2, 1, 0)
		mustNotOpen(t, a, kind, api.ErrPower) // it is off now
		mustCount(t, d, 2, 1, 0)
	}
}

// What waits is read as all else is; without a sector to wipe it waits on.
func TestOpenOfWhatWaits(t *testing.T) {
	d, a := onto(t, nil, 4)
	j := mustOpen(t, a, kind, 0, 4)
	mustAdd(t, j, []byte("a"), 0)
	mustAdd(t, j, []byte("b"), 1)
	mustSay(t, "Wipe", a.Wipe(2), api.OK)
	j = mustOpen(t, a, kind, 2, 2)
	mustGet(t, j, 1, []byte("b"))
	mustCount(t, d, 9, 3, 0)
	if d.Waits() != 3 {
		t.Fatal(d.Waits())
	}
	mustSay(t, "Put", a.Put(3, kind, 3, nil), api.OK)
	mustOpen(t, a, kind, 2, 2)
	mustCount(t, d, 13, 5, 1)
	if d.Waits() != 0 {
		t.Fatal(d.Waits())
	}
	d.Crash(nil)
	mustOpen(t, a, kind, 2, 2)
}

// Areas of the greatest plan, and of the greatest disk, which the chapter gives no other bound: full, and with a gap at the end, or at the beginning.
func TestGreatAreas(t *testing.T) {
	for _, s := range []api.Span{{First: 11, Many: api.MaxRecords}, {First: 0, Many: api.MaxSectors}} {
		d, e := disk.New(api.MaxSectors, api.MaxSectors)
		mustSay(t, "disk.New", e, api.OK)
		a, e := area.New(d, s)
		mustSay(t, "area.New", e, api.OK)
		j := mustOpen(t, a, 255, 0, s.Many)
		for n := range s.Many {
			mustAdd(t, j, []byte(strconv.Itoa(n)), n)
		}
		mustNotAdd(t, j, nil, api.ErrFull)
		j = mustOpen(t, a, 255, s.Many, 0)
		for _, n := range []int{0, 1, 255, 256, s.Many / 2, s.Many - 1} {
			mustGet(t, j, n, []byte(strconv.Itoa(n)))
		}
		mustNotGet(t, j, s.Many, api.ErrNone)
		mustSay(t, "Wipe", a.Wipe(s.Many-1), api.OK)
		mustOpen(t, a, 255, s.Many-1, 1)
		if d.Waits() == 0 {
			t.Fatal("all was flushed, though nothing was wiped")
		}
		mustSay(t, "Wipe", a.Wipe(0), api.OK)
		mustOpen(t, a, 255, 0, s.Many)
		mustCount(t, d, 4*s.Many+6, 2*s.Many, 1)
		if d.Waits() != 0 || !bytes.Equal(d.Image(), make([]byte, api.MaxSectors*size)) {
			t.Fatal("not all was wiped")
		}
	}
}

// P9.2: what is done with a journal.

// notNumbers are numbers of no record, if there are so many, some of which are one, if they go round or lose some bits.
func notNumbers(many int) []int {
	l := []int{-1, -2, -first, -256, least, least + 1, many, many + 1, many + 100, 256, 257, 1 << 16, 1 << 32, 1<<32 + 1, -1 << 32, 1 << 62, most - 1, most}
	for _, k := range []int{8, 16, 31, 32, 48, 62} {
		l = append(l, 1<<k+many-1, -1<<k+many-1)
	}
	return l
}

func TestGet(t *testing.T) {
	l := lot(2)
	const many = 6
	d, a := onto(t, filled(t, make([]int, many)...), many)
	j := mustOpen(t, a, kind, 0, many)
	var loads [][]byte
	for n := range many + 1 {
		for _, no := range notNumbers(n) {
			mustNotGet(t, j, no, api.ErrNone)
		}
		reads := d.Meter().Count(api.MeterRead)
		for at, load := range loads {
			mustGet(t, j, at, load)
		}
		if got := d.Meter().Count(api.MeterRead); got != reads+n {
			t.Fatalf("%d reads of %d records", got-reads, n)
		}
		if n < many {
			loads = append(loads, l.bytes(l.below(api.MaxLoad+1)))
			mustAdd(t, j, loads[n], n)
		}
	}
	if d.Waits() != many {
		t.Fatal(d.Waits())
	}
}

// What stands there no more is told so, and only of that record; and is there again, if it stands there again.
func TestGetOfWhatStandsNoMore(t *testing.T) {
	was := sealed(t, kind, 1, []byte("b"))
	turned := was
	turned[11] ^= 128
	others := []sector{{}, {size - 1: 215}, turned, torn(was, sector{}, 20), torn(sector{}, was, 1), sealed(t, kind+1, 1, []byte("b")), sealed(t, 1, 1, nil)}
	for _, number := range []int{0, 2, 257, 1<<32 + 1, most} {
		others = append(others, sealed(t, kind, number, []byte("b")))
	}
	for at, b := range others {
		_, a := onto(t, filled(t, record, blank, record, blank), 4)
		j := mustOpen(t, a, kind, 1, 3)
		mustAdd(t, j, []byte("b"), 1)
		mustAdd(t, j, []byte("c"), 2)
		mustSay(t, "Write", a.Write(1, b), api.OK)
		mustNotGet(t, j, 1, api.ErrSeal)
		mustGet(t, j, 0, []byte{record, 0, 0, 7})
		mustGet(t, j, 2, []byte("c"))
		mustHave(t, j, 3, 1)
		mustAdd(t, j, []byte("d"), 3)
		if at%2 == 0 {
			mustOpen(t, a, kind, 1, 3) // the journal that is opened then ends there
			mustNotGet(t, j, 2, api.ErrSeal)
			continue
		}
		mustSay(t, "Put", a.Put(1, kind, 1, []byte("new")), api.OK)
		mustGet(t, j, 1, []byte("new"))
	}
}

// What was added, and neither flushed nor kept, is gone for a journal that was opened ahead of the crash, too.
func TestGetBehindACrash(t *testing.T) {
	d, a := onto(t, nil, 3)
	j := mustOpen(t, a, kind, 0, 3)
	mustAdd(t, j, []byte("a"), 0)
	mustSay(t, "Flush", j.Flush(), api.OK)
	mustAdd(t, j, []byte("b"), 1)
	mustAdd(t, j, []byte("c"), 2)
	d.Crash([]byte{0, size})
	mustGet(t, j, 0, []byte("a"))
	mustNotGet(t, j, 1, api.ErrSeal)
	mustGet(t, j, 2, []byte("c"))
	mustHave(t, j, 3, 0)
}

// That there is no such record comes ahead of the power.
func TestGetWithoutPower(t *testing.T) {
	d, a := onto(t, nil, 3)
	j := mustOpen(t, a, kind, 0, 3)
	mustAdd(t, j, []byte("a"), 0)
	mustAdd(t, j, []byte("b"), 1)
	mustSay(t, "Wipe", a.Wipe(1), api.OK)
	d.Cut(0)
	mustGet(t, j, 0, []byte("a")) // to read is no operation with which the power goes
	mustSay(t, "Flush", j.Flush(), api.ErrPower)
	reads := d.Meter().Count(api.MeterRead)
	mustNotGet(t, j, 0, api.ErrPower)
	mustNotGet(t, j, 1, api.ErrPower) // nor is it looked whether it stands there
	for _, no := range notNumbers(2) {
		mustNotGet(t, j, no, api.ErrNone)
	}
	if got := d.Meter().Count(api.MeterRead); got != reads {
		t.Fatal("it was read")
	}
}

// Loads of each length that may be: what is written is the sealed sector, and what was handed in stays.
func TestAdd(t *testing.T) {
	l := lot(3)
	const many = api.MaxLoad + 1
	d, a := onto(t, nil, many)
	j := mustOpen(t, a, kind, 0, many)
	for n := range many {
		load := l.bytes(n) // of each length that may be
		was := bytes.Clone(load)
		mustAdd(t, j, load, n)
		mustHave(t, j, n+1, many-n-1)
		if !bytes.Equal(load, was) {
			t.Fatal("the load was changed")
		}
		clear(load) // what was added is no more the caller's
		if b, e := d.Read(first + n); e != api.OK || b != sealed(t, kind, n, was) {
			t.Fatalf("sector %d is %x, %d", n, b, e)
		}
		mustGet(t, j, n, was)
		if d.Waits() != n+1 {
			t.Fatalf("%d pieces wait, not %d", d.Waits(), n+1)
		}
	}
	mustNotAdd(t, j, nil, api.ErrFull)
	mustCount(t, d, 3*many, many, 0)
	mustSay(t, "Flush", j.Flush(), api.OK)
	d.Crash(nil)
	mustOpen(t, a, kind, many, 0)
}

// What is got is memory of its own.
func TestGotIsOwn(t *testing.T) {
	_, a := onto(t, nil, 2)
	j := mustOpen(t, a, kind, 0, 2)
	mustAdd(t, j, []byte{3, 4}, 0)
	one, _ := j.Get(0)
	two, _ := j.Get(0)
	one[0] = 9
	if one = append(one, 8); !bytes.Equal(two, []byte{3, 4}) {
		t.Fatal(two)
	}
	mustGet(t, j, 0, []byte{3, 4})
}

// The states in which something is added to a journal with two records.
const (
	fresh     = iota
	fullOne   // the journal has no room
	noRoom    // the disk hasn't
	going     // the power goes with the next operation
	off       // it is off
	fullOff   // two at once
	noRoomOff // likewise
	states
)

// inState is a journal with two records on a disk of that state.
func inState(t *testing.T, state int) (*disk.Disk, *area.Area, *journal.Journal) {
	t.Helper()
	many, room := 4, 4
	if state == fullOne || state == fullOff {
		many = 2
	}
	if state == noRoom || state == noRoomOff {
		room = 2
	}
	d, e := disk.New(many+first+tail, room)
	mustSay(t, "disk.New", e, api.OK)
	a, e := area.New(d, api.Span{First: first, Many: many})
	mustSay(t, "area.New", e, api.OK)
	j := mustOpen(t, a, kind, 0, many)
	mustAdd(t, j, []byte("a"), 0)
	mustAdd(t, j, []byte("b"), 1)
	switch state {
	case going:
		d.Cut(0)
	case off, fullOff, noRoomOff:
		d.Cut(0)
		mustSay(t, "Flush", d.Flush(), api.ErrPower)
	}
	return d, a, j
}

// Which error comes first; and that nothing is written, but for what waits as the power goes.
func TestAddOfWhatIsNot(t *testing.T) {
	for state := range states {
		for _, many := range []int{0, 1, api.MaxLoad, api.MaxLoad + 1, api.MaxLoad + 2, size, 256, 256 + 1, 1 << 16} {
			d, _, j := inState(t, state)
			want := [states]api.Errno{fresh: api.OK, fullOne: api.ErrFull, noRoom: api.ErrFull, going: api.ErrPower, off: api.ErrPower, fullOff: api.ErrFull, noRoomOff: api.ErrPower}[state]
			if many > api.MaxLoad {
				want = api.ErrLimit
			}
			waits, left, on, counts := d.Waits(), d.Left(), d.On(), d.Meter().All()
			if want == api.OK {
				mustAdd(t, j, make([]byte, many), 2)
				continue
			}
			mustNotAdd(t, j, make([]byte, many), want)
			if state == going && want == api.ErrPower {
				if d.On() || d.Waits() != waits+1 {
					t.Fatal(d.On(), d.Waits())
				}
				continue
			}
			if d.Waits() != waits || d.Left() != left || d.On() != on || !slices.Equal(d.Meter().All(), counts) {
				t.Fatalf("state %d, %d bytes: something was done", state, many)
			}
		}
	}
}

// What couldn't be written is none of the journal's: what is added next stands in its place.
func TestAddBehindAnError(t *testing.T) {
	d, a, j := inState(t, going)
	mustNotAdd(t, j, []byte("lost"), api.ErrPower)
	mustNotGet(t, j, 2, api.ErrNone)
	d.Crash([]byte{size, size, 0})
	mustNotGet(t, j, 2, api.ErrNone)
	mustAdd(t, j, []byte("c"), 2)
	mustGet(t, j, 2, []byte("c"))
	mustAdd(t, j, []byte("d"), 3)
	mustNotAdd(t, j, []byte("e"), api.ErrFull)

	d, a, j = inState(t, noRoom)
	mustNotAdd(t, j, []byte("c"), api.ErrFull)
	mustNotGet(t, j, 2, api.ErrNone)
	mustHave(t, j, 2, 2) // there is room in the journal
	d.Crash(nil)         // what waited is gone, and its sectors are in use no more
	mustOpen(t, a, kind, 0, 4)
	mustAdd(t, j, []byte("c"), 2)
}

func TestFlush(t *testing.T) {
	d, a, j := inState(t, fresh)
	mustSay(t, "the disk's Write", d.Write(0, sector{1}), api.OK) // a disk's flush keeps all that waits
	mustSay(t, "Flush", j.Flush(), api.OK)
	if d.Waits() != 0 {
		t.Fatal(d.Waits())
	}
	mustSay(t, "Flush of nothing", j.Flush(), api.OK)
	mustCount(t, d, 4, 3, 2)
	d.Crash(nil)
	mustOpen(t, a, kind, 2, 2)

	d, a, j = inState(t, going)
	mustSay(t, "Flush", j.Flush(), api.ErrPower)
	mustCount(t, d, 4, 2, 1)
	mustSay(t, "Flush with the power off", j.Flush(), api.ErrPower)
	mustCount(t, d, 4, 2, 1)
	mustHave(t, j, 2, 2)
	d.Crash(nil)
	mustOpen(t, a, kind, 0, 4)
	mustSay(t, "Flush", j.Flush(), api.OK)
}

// P9.1 and P9.2: journals that are none.
func TestNone(t *testing.T) {
	for _, j := range []*journal.Journal{nil, {}, new(journal.Journal)} {
		mustHave(t, j, 0, 0)
		for _, n := range []int{0, 1, -1, least, most} {
			mustNotGet(t, j, n, api.ErrNil)
		}
		for _, many := range []int{0, 1, api.MaxLoad, api.MaxLoad + 1} {
			mustNotAdd(t, j, make([]byte, many), api.ErrNil)
		}
		mustSay(t, "Flush", j.Flush(), api.ErrNil)
	}
}

// P9.3: what is there behind crashes.

// ledger is what must be there, and what may be, behind it: the loads that were flushed, and those that weren't.
type ledger struct {
	sure, maybe [][]byte
}

// loads are those of all records of a journal.
func loads(t *testing.T, j *journal.Journal) [][]byte {
	t.Helper()
	var out [][]byte
	for n := range j.Len() {
		load, e := j.Get(n)
		mustSay(t, "Get", e, api.OK)
		out = append(out, load)
	}
	return out
}

func same(a, b [][]byte) bool {
	return slices.EqualFunc(a, b, bytes.Equal)
}

// mustAllow holds that a journal has all that was flushed, some first ones of what was added behind it, and no other ones.
func (g ledger) mustAllow(t *testing.T, j *journal.Journal) [][]byte {
	t.Helper()
	got := loads(t, j)
	all := append(slices.Clone(g.sure), g.maybe...)
	if len(got) < len(g.sure) || len(got) > len(all) || !same(got, all[:len(got)]) {
		t.Fatalf("%q, where %q was flushed, and %q added behind it", got, g.sure, g.maybe)
	}
	return got
}

// inArea is how many sectors the areas have that are crashed.
const inArea = 5

// mustKeep holds that so many records are kept from 0 on; and, behind an opening, that all sectors behind them are kept blank.
func mustKeep(t *testing.T, d *disk.Disk, many int, opened bool) {
	t.Helper()
	image := d.Image()
	w := said{kind: kind}
	for n := range inArea {
		b := sector(image[(first+n)*size:])
		if n < many && !w.stands(b, n) || n == many && w.stands(b, n) || n >= many && opened && b != (sector{}) {
			t.Fatalf("%d records are kept, but sector %d is %x", many, n, b)
		}
	}
}

// kept is how many records are kept from 0 on without a gap.
func kept(d *disk.Disk) int {
	image := d.Image()
	w := said{kind: kind}
	n := 0
	for n < inArea && w.stands(sector(image[(first+n)*size:]), n) {
		n++
	}
	return n
}

// do does what a text says (o: the journal is opened, a: a record is added, f: all is flushed), till the power goes.
func (g *ledger) do(t *testing.T, d *disk.Disk, a *area.Area, text string) {
	t.Helper()
	var j *journal.Journal
	for at, c := range text {
		var e api.Errno
		switch c {
		case 'o':
			if j, e = journal.Open(a, kind); e == api.OK {
				g.mustAllow(t, j)
			}
		case 'a':
			load := []byte(text[:at]) // each of another length
			g.maybe = append(g.maybe, load)
			_, e = j.Add(load)
		case 'f':
			if e = j.Flush(); e == api.OK {
				g.sure, g.maybe = append(g.sure, g.maybe...), nil
			}
		}
		if !d.On() {
			mustSay(t, "what was done as the power went", e, api.ErrPower)
			return
		}
		mustSay(t, "what was done", e, api.OK)
	}
}

// choices are what is tried where so many pieces wait: all that there are of one.
func choices(many int) [][]byte {
	switch {
	case many < 2:
		var each []byte
		for c := range 256 {
			each = append(each, byte(c))
		}
		return lists(many, each...)
	case many < 4:
		return lists[byte](many, 0, 12, 127, 128)
	}
	return lists[byte](many, 0, 127, 255)
}

// The power goes at each operation of what is done over what stands there already, and all choices are tried.
func TestCrashes(t *testing.T) {
	for _, what := range [][]int{{blank, blank, blank, blank, blank}, {record, tornOne, record, blank, otherNumber}, {otherKind, record, blank, blank, record}} {
		for _, text := range []string{"oaaaa", "oafaafa", "oaofaoa", "oafofaaof", "ooaaaf"} {
			for cut := 0; mustSurvive(t, what, text, cut); cut++ {
			}
		}
	}
}

// mustSurvive lets the power go behind so many operations, crashes, and holds all that comes behind that; did the power go? (If not, all that waits in the end is crashed.)
func mustSurvive(t *testing.T, what []int, text string, cut int) bool {
	t.Helper()
	begin := func() (*disk.Disk, ledger) {
		d, a := onto(t, filled(t, what...), inArea)
		var g ledger
		for n := range kept(d) {
			g.sure = append(g.sure, []byte{record, byte(n), 0, 7})
		}
		d.Cut(cut)
		g.do(t, d, a, text)
		return d, g
	}
	d, _ := begin()
	went := !d.On()
	for _, c := range choices(d.Waits()) {
		d, g := begin()
		d.Crash(c)
		g.mustRecover(t, d.Image(), kept(d))
	}
	return went
}

// mustRecover opens what is kept behind a crash, with the power going at each operation of it, too.
func (g ledger) mustRecover(t *testing.T, image []byte, many int) {
	t.Helper()
	for cut := 0; ; cut++ {
		d, a := onto(t, image, inArea)
		d.Cut(cut)
		_, e := journal.Open(a, kind)
		if e == api.OK {
			d.Cut(-1)
			g.mustGoOn(t, d, a, many)
			return
		}
		mustSay(t, "Open", e, api.ErrPower)
		for _, c := range lists[byte](d.Waits(), 0, 50, 128) {
			d, a := onto(t, image, inArea)
			d.Cut(cut)
			mustNotOpen(t, a, kind, api.ErrPower)
			d.Crash(c)
			mustKeep(t, d, many, false)
			g.mustGoOn(t, d, a, many)
		}
	}
}

// mustGoOn opens a journal, and adds to it: what it had by then is there behind a crash, and what was flushed since.
func (g ledger) mustGoOn(t *testing.T, d *disk.Disk, a *area.Area, many int) {
	t.Helper()
	j := mustOpen(t, a, kind, many, inArea-many)
	all := g.mustAllow(t, j)
	mustKeep(t, d, many, true)
	for _, load := range []string{"more", "most"} {
		if j.Room() == 0 {
			return
		}
		mustAdd(t, j, []byte(load), many)
		mustSay(t, "Flush", j.Flush(), api.OK)
		all = append(all, []byte(load))
		many++
	}
	d.Crash(nil)
	if got := loads(t, mustOpen(t, a, kind, many, inArea-many)); !same(got, all) {
		t.Fatalf("%q, not %q", got, all)
	}
}

// Records of old, of which some are kept behind a gap, never come again, whatever is added ahead of them.
func TestNoneComesAgain(t *testing.T) {
	for _, choice := range lists[byte](3, 0, size) {
		d, a := onto(t, nil, 4)
		j := mustOpen(t, a, kind, 0, 4)
		for n := range 3 {
			mustAdd(t, j, []byte("old"), n)
		}
		d.Crash(choice)
		j, e := journal.Open(a, kind)
		mustSay(t, "Open", e, api.OK)
		many := j.Len()
		if many == 3 {
			continue
		}
		mustAdd(t, j, []byte("new"), many)
		mustSay(t, "Flush", j.Flush(), api.OK)
		d.Crash(nil)
		mustGet(t, mustOpen(t, a, kind, many+1, 3-many), many, []byte("new"))
	}
}

// All promises at once: long runs of calls, held against the words, and against a ledger.

// start is a pair on disks with more or less on them, and with more or less room.
func start(t *testing.T, l *lot) *pair {
	t.Helper()
	many := 1 + l.below(7)
	what := make([]int, many)
	for n := range what {
		if what[n] = record; l.below(2) == 0 {
			what[n] = l.below(fillings)
		}
	}
	image := filled(t, what...)
	sectors := len(image) / size
	room := sectors
	if l.below(3) == 0 {
		room = l.below(sectors + 1)
		image = image[:l.below(room+1)*size]
	}
	return mustPair(t, image, sectors, room, api.Span{First: first, Many: many}, kind)
}

// chosen are choices for what waits, and perhaps one more.
func chosen(l *lot, waits int) []byte {
	c := l.bytes(l.below(waits + 2))
	for at := range c {
		switch l.below(4) {
		case 0:
			c[at] = 0
		case 1:
			c[at] = size
		}
	}
	return c
}

// step does something with a pair, and keeps the ledger.
func (g *ledger) step(t *testing.T, l *lot, p *pair) {
	t.Helper()
	switch what := l.below(20); {
	case what == 0:
		p.cut(l.below(14) - 4)
	case what == 1 || !p.d.On() && what < 10:
		p.crash(chosen(l, p.d.Waits()))
	case what == 2 || p.j == nil:
		if p.open(t) == api.OK {
			got := g.mustAllow(t, p.j)
			if g.maybe = got[len(g.sure):]; p.d.Waits() == 0 {
				g.sure, g.maybe = got, nil
			}
			for n := range p.w.many { // what the ledger read of the one
				p.w.get(n)
			}
		}
	case what < 5:
		if p.flush(t) == api.OK {
			g.sure, g.maybe = append(g.sure, g.maybe...), nil
		}
	case what < 9:
		p.get(t, l.below(p.w.span.Many+3)-1)
	default:
		load, waits := l.bytes(l.below(api.MaxLoad+3)), p.d.Waits()
		p.add(t, load)
		if p.d.Waits() > waits { // as the power went, too
			g.maybe = append(g.maybe, load)
		}
	}
}

func TestLongRuns(t *testing.T) {
	for run := range 1500 {
		l := lot(run)
		p := start(t, &l)
		var g ledger
		for n := 0; ; n++ { // what stands at first was flushed once
			b, _ := p.d.Read(first + n)
			p.w.d.Read(first + n)
			if n == p.w.span.Many || !p.w.stands(b, n) {
				break
			}
			_, load, _ := seal.Open(b, kind)
			g.sure = append(g.sure, load)
		}
		for range 120 {
			g.step(t, &l, p)
			p.mustBeAlike(t)
		}
		p.mustReadAlike(t)
	}
}

// Journals that stay behind crashes, and areas into which others write: all is as the words say.
func TestLongRunsOfOldOnes(t *testing.T) {
	for run := range 1500 {
		l := lot(run)
		p := start(t, &l)
		for range 120 {
			n := l.below(p.w.span.Many)
			switch what := l.below(20); {
			case what == 0:
				p.cut(l.below(14) - 4)
			case what == 1 || !p.d.On() && what < 10:
				j := p.j
				p.crash(chosen(&l, p.d.Waits()))
				p.j = j
			case what == 2 || p.j == nil:
				p.open(t)
			case what == 3:
				b := fill(t, l.below(fillings), n)
				mustSay(t, "Write", p.a.Write(n, b), p.w.d.Write(first+n, b))
			case what == 4:
				p.flush(t)
			case what < 12:
				p.get(t, n)
			default:
				p.add(t, l.bytes(l.below(20)))
			}
			p.mustBeAlike(t)
		}
		p.mustReadAlike(t)
	}
}
