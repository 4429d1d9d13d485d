package disk_test

import (
	"bytes"
	"math"
	"slices"
	"testing"

	"tompion/api"
	"tompion/disk"
	"tompion/meter"
)

const (
	least = math.MinInt
	most  = math.MaxInt
	size  = api.Sector
)

// all is a sector of one byte.
func all(c byte) [size]byte {
	var b [size]byte
	for at := range b {
		b[at] = c
	}
	return b
}

// lot draws numbers that are the same at each run.
type lot uint64

func (l *lot) below(n int) int {
	*l = *l*6364136223846793005 + 1442695040888963407
	return int(uint64(*l)>>33) % n
}

func (l *lot) sector() [size]byte {
	var b [size]byte
	for at := range b {
		b[at] = byte(l.below(256))
	}
	return b
}

// mustMake is a disk that there must be.
func mustMake(t *testing.T, sectors, room int) *disk.Disk {
	t.Helper()
	d, e := disk.New(sectors, room)
	if e != api.OK || d == nil {
		t.Fatalf("New(%d, %d) = %v, %d", sectors, room, d, e)
	}
	return d
}

// mustLoad is a disk that there must be, of an image.
func mustLoad(t *testing.T, image []byte, sectors, room int) *disk.Disk {
	t.Helper()
	d, e := disk.Load(image, sectors, room)
	if e != api.OK || d == nil {
		t.Fatalf("Load(%d bytes, %d, %d) = %v, %d", len(image), sectors, room, d, e)
	}
	return d
}

// mustSay holds an error's number.
func mustSay(t *testing.T, what string, got, want api.Errno) {
	t.Helper()
	if got != want {
		t.Fatalf("%s: error %d, not %d", what, got, want)
	}
}

// mustRead holds what is read of a sector.
func mustRead(t *testing.T, d *disk.Disk, n int, want [size]byte) {
	t.Helper()
	if b, e := d.Read(n); e != api.OK || b != want {
		t.Fatalf("Read(%d) = %v, %d, not %v", n, b, e, want)
	}
}

// mustCount holds reads, writes and flushes.
func mustCount(t *testing.T, d *disk.Disk, reads, writes, flushes int) {
	t.Helper()
	want := []int{reads, writes, flushes, 0, 0, 0}
	if got := d.Meter().All(); !slices.Equal(got, want) {
		t.Fatalf("the meter has %v, not %v", got, want)
	}
}

// mustBe holds all that a disk tells without an operation.
func mustBe(t *testing.T, d *disk.Disk, sectors, left, waits int, on bool, image []byte) {
	t.Helper()
	if d.Size() != sectors || d.Left() != left || d.Waits() != waits || d.On() != on {
		t.Fatalf("Size %d, Left %d, Waits %d, On %v, not %d, %d, %d, %v", d.Size(), d.Left(), d.Waits(), d.On(), sectors, left, waits, on)
	}
	got := d.Image()
	if len(got) != sectors*size {
		t.Fatalf("an image of %d bytes, not %d", len(got), sectors*size)
	}
	whole := append(bytes.Clone(image), make([]byte, sectors*size-len(image))...)
	if !bytes.Equal(got, whole) {
		t.Fatalf("another image than it should be")
	}
}

// P6.1: what disks there may be, and what they tell.

func TestNew(t *testing.T) {
	for _, sectors := range []int{1, 2, 3, 255, 256, 257, api.MaxSectors - 1, api.MaxSectors} {
		for _, room := range []int{0, 1, sectors / 2, sectors - 1, sectors} {
			if room > sectors {
				continue
			}
			d := mustMake(t, sectors, room)
			mustBe(t, d, sectors, room, 0, true, nil)
			mustCount(t, d, 0, 0, 0)
		}
		for _, room := range []int{-1, -2, least, sectors + 1, sectors + 256, most, 1<<32 + sectors, -1 << 32} {
			mustNotBe(t, sectors, room)
		}
	}
	for _, sectors := range []int{0, -1, -2, least, least + 1, api.MaxSectors + 1, 2 * api.MaxSectors, 1<<32 + 1, 1<<16 + 1, most} {
		for _, room := range []int{0, 1, -1, sectors, sectors - 1, api.MaxSectors, least, most} {
			mustNotBe(t, sectors, room)
		}
	}
}

// mustNotBe holds that there is no disk of so many sectors and so much room, with an image or without one, be it too long, or not.
func mustNotBe(t *testing.T, sectors, room int) {
	t.Helper()
	if d, e := disk.New(sectors, room); d != nil || e != api.ErrArg {
		t.Fatalf("New(%d, %d) = %v, %d", sectors, room, d, e)
	}
	for _, image := range [][]byte{nil, {}, {1}, make([]byte, size+1), make([]byte, (api.MaxSectors+1)*size)} {
		if d, e := disk.Load(image, sectors, room); d != nil || e != api.ErrArg {
			t.Fatalf("Load(%d bytes, %d, %d) = %v, %d", len(image), sectors, room, d, e)
		}
	}
}

// longs are lengths of images about where sectors begin.
func longs(sectors int) []int {
	l := []int{0, 1, 2, sectors * size, sectors*size - 1, sectors*size + 1, (sectors + 1) * size, sectors*size + 500}
	for n := range min(sectors, 6) {
		l = append(l, n*size, n*size+1, n*size+size-1)
	}
	return l
}

func TestLoad(t *testing.T) {
	l := lot(1)
	for _, sectors := range []int{1, 2, 3, 5, 8} {
		for room := 0; room <= sectors; room++ {
			for _, long := range longs(sectors) {
				image := make([]byte, long)
				for at := range image {
					image[at] = byte(1 + l.below(255))
				}
				mustLoadSo(t, image, sectors, room)
				mustLoadSo(t, make([]byte, long), sectors, room) // noughts are bytes, too
			}
		}
	}
	image := make([]byte, api.MaxSectors*size)
	for at := range image {
		image[at] = byte(at>>7 + at)
	}
	mustLoadSo(t, image, api.MaxSectors, api.MaxSectors)
	mustLoadSo(t, image, api.MaxSectors, api.MaxSectors-1)
	mustLoadSo(t, append(image, 0), api.MaxSectors, api.MaxSectors)
}

// mustLoadSo holds what Load answers, and the disk.
func mustLoadSo(t *testing.T, image []byte, sectors, room int) {
	t.Helper()
	was := bytes.Clone(image)
	d, e := disk.Load(image, sectors, room)
	over := 0 // sectors over which the image's bytes lie
	for over*size < len(image) {
		over++
	}
	want := api.OK
	switch {
	case over > sectors:
		want = api.ErrArg
	case over > room:
		want = api.ErrFull
	}
	if e != want || (d == nil) != (want != api.OK) {
		t.Fatalf("Load(%d bytes, %d, %d) = %v, %d, not %d", len(image), sectors, room, d, e, want)
	}
	if !bytes.Equal(image, was) {
		t.Fatal("the image was changed")
	}
	if d == nil {
		return
	}
	mustBe(t, d, sectors, room-over, 0, true, was)
	mustCount(t, d, 0, 0, 0)
	for n := range min(sectors, 10) {
		var b [size]byte
		if n < over {
			copy(b[:], was[n*size:])
		}
		mustRead(t, d, n, b)
	}
	for at := range image { // the disk has its own
		image[at] ^= 0xff
	}
	mustBe(t, d, sectors, room-over, 0, true, was)
	copy(image, was)
}

func TestLoadedAreInUse(t *testing.T) {
	image := make([]byte, 2*size+1) // of noughts: three sectors are in use all the same
	d := mustLoad(t, image, 5, 3)
	for n, want := range []api.Errno{api.OK, api.OK, api.OK, api.ErrFull, api.ErrFull} {
		mustSay(t, "Write", d.Write(n, all(1)), want)
	}
	d.Crash(nil) // gone is what was written, not what was loaded
	mustBe(t, d, 5, 0, 0, true, nil)
	for n, want := range []api.Errno{api.OK, api.OK, api.OK, api.ErrFull, api.ErrFull} {
		mustSay(t, "Write", d.Write(n, all(1)), want)
	}
	if d, e := disk.Load(image, 5, 2); d != nil || e != api.ErrFull {
		t.Fatal("no room for three", d, e)
	}
}

func TestImageIsNewMemory(t *testing.T) {
	d := mustLoad(t, []byte{1, 2, 3}, 2, 2)
	for range 2 {
		image := d.Image()
		if !bytes.Equal(image[:4], []byte{1, 2, 3, 0}) {
			t.Fatal(image)
		}
		clear(image)
		image[size] = 7
	}
	mustBe(t, d, 2, 1, 0, true, []byte{1, 2, 3})
}

func TestImageIsOfWhatIsKeptAlone(t *testing.T) {
	d := mustMake(t, 3, 3)
	mustSay(t, "Write", d.Write(1, all(5)), api.OK)
	mustBe(t, d, 3, 2, 1, true, nil)
	mustSay(t, "Flush", d.Flush(), api.OK)
	b := all(5)
	kept := append(make([]byte, size), b[:]...)
	mustBe(t, d, 3, 2, 0, true, kept)
	mustSay(t, "Write", d.Write(1, all(6)), api.OK)
	mustSay(t, "Write", d.Write(2, all(7)), api.OK)
	mustBe(t, d, 3, 1, 2, true, kept)
	d.Cut(0)
	mustSay(t, "Flush", d.Flush(), api.ErrPower)
	mustBe(t, d, 3, 1, 2, false, kept) // told with the power off, too
}

// P6.2: what is read, written and flushed.

// noSectors are numbers of no sector, such among them as would be taken for one if a number lost some bits or its sign.
func noSectors(sectors int) []int {
	l := []int{-1, -2, -sectors, sectors, sectors + 1, 2 * sectors, least, least + 1, most, most - 1, api.MaxSectors, api.MaxSectors + 1}
	for k := 12; k < 63; k++ {
		l = append(l, 1<<k, 1<<k+sectors-1, -1<<k, -1<<k+sectors-1)
	}
	return append(l, least+sectors-1)
}

func TestNoSuchSector(t *testing.T) {
	for _, sectors := range []int{1, 2, 7, 300, api.MaxSectors} {
		d := mustMake(t, sectors, sectors)
		d.Cut(2) // refused ones don't count
		for _, n := range noSectors(sectors) {
			if n >= 0 && n < sectors {
				continue
			}
			if b, e := d.Read(n); e != api.ErrRange || b != all(0) {
				t.Fatalf("Read(%d) of %d sectors = %v, %d", n, sectors, b, e)
			}
			mustSay(t, "Write", d.Write(n, all(1)), api.ErrRange)
		}
		mustBe(t, d, sectors, sectors, 0, true, nil)
		mustCount(t, d, 0, 0, 0)
		mustSay(t, "Write", d.Write(sectors-1, all(3)), api.OK)
		mustSay(t, "Write", d.Write(0, all(2)), api.OK)
		mustRead(t, d, 0, all(2))
		if sectors > 1 {
			mustRead(t, d, sectors-1, all(3))
		}
		mustSay(t, "Write", d.Write(0, all(2)), api.ErrPower)
	}
}

func TestReadIsWhatWasWrittenLast(t *testing.T) {
	d := mustMake(t, 4, 4)
	for n := range 4 {
		mustRead(t, d, n, all(0))
	}
	mustSay(t, "Write", d.Write(2, all(1)), api.OK)
	mustRead(t, d, 2, all(1))
	mustSay(t, "Write", d.Write(1, all(9)), api.OK)
	mustSay(t, "Write", d.Write(2, all(2)), api.OK)
	mustRead(t, d, 2, all(2))
	mustRead(t, d, 1, all(9))
	mustSay(t, "Flush", d.Flush(), api.OK)
	mustRead(t, d, 2, all(2))
	mustRead(t, d, 1, all(9))
	mustSay(t, "Write", d.Write(2, all(0)), api.OK)
	mustRead(t, d, 2, all(0))
	mustRead(t, d, 0, all(0))
	mustRead(t, d, 3, all(0))
	mustBe(t, d, 4, 2, 1, true, d.Image())
}

func TestWhatWaitsIsAsItWas(t *testing.T) {
	d := mustMake(t, 1, 1)
	b := all(1)
	mustSay(t, "Write", d.Write(0, b), api.OK)
	b[0] = 9
	got, _ := d.Read(0)
	got[1] = 8
	mustRead(t, d, 0, all(1))
	mustSay(t, "Flush", d.Flush(), api.OK)
	b[2] = 7
	mustRead(t, d, 0, all(1))
}

func TestNoRoom(t *testing.T) {
	for room := 0; room <= 3; room++ {
		d := mustMake(t, 4, room)
		for n := range 4 {
			at := 3 - n
			want := api.OK
			if n >= room {
				want = api.ErrFull
			}
			mustSay(t, "Write", d.Write(at, all(byte(at+1))), want)
			if want == api.OK {
				mustRead(t, d, at, all(byte(at+1)))
				mustSay(t, "Write again", d.Write(at, all(byte(at+2))), api.OK) // in use already
			} else {
				mustRead(t, d, at, all(0))
			}
		}
		mustBe(t, d, 4, 0, 2*room, true, nil)
		mustSay(t, "Flush", d.Flush(), api.OK)
		mustBe(t, d, 4, 0, 0, true, d.Image())
		mustSay(t, "Write", d.Write(0, all(1)), api.ErrFull)
		if room > 0 {
			mustSay(t, "Write", d.Write(3, all(0)), api.OK)
		}
		mustCount(t, d, 4, min(3*room, 2*room+1), 1)
	}
}

func TestNoughtsComeInUse(t *testing.T) {
	d := mustMake(t, 3, 2)
	mustSay(t, "Write", d.Write(0, all(0)), api.OK)
	mustBe(t, d, 3, 1, 1, true, nil)
	mustSay(t, "Flush", d.Flush(), api.OK)
	mustSay(t, "Write", d.Write(1, all(0)), api.OK)
	d.Crash([]byte{1})
	mustBe(t, d, 3, 0, 0, true, nil)
	mustSay(t, "Write", d.Write(2, all(0)), api.ErrFull)
}

// mustBeOff holds what a disk without power answers: neither reads, writes nor flushes, and the first error that the chapter names.
func mustBeOff(t *testing.T, d *disk.Disk) {
	t.Helper()
	reads, writes, flushes := d.Meter().Count(api.MeterRead), d.Meter().Count(api.MeterWrite), d.Meter().Count(api.MeterFlush)
	left, waits, image := d.Left(), d.Waits(), d.Image()
	for _, n := range []int{0, d.Size() - 1, -1, d.Size(), least, most} {
		if b, e := d.Read(n); e != api.ErrPower || b != all(0) {
			t.Fatalf("Read(%d) = %v, %d with the power off", n, b, e)
		}
		mustSay(t, "Write with the power off", d.Write(n, all(1)), api.ErrPower)
	}
	mustSay(t, "Flush with the power off", d.Flush(), api.ErrPower)
	mustCount(t, d, reads, writes, flushes)
	mustBe(t, d, d.Size(), left, waits, false, image)
}

func TestPowerGoesWithAWrite(t *testing.T) {
	d := mustMake(t, 3, 2)
	d.Cut(1)
	mustSay(t, "Write", d.Write(0, all(1)), api.OK)
	mustSay(t, "Write", d.Write(1, all(2)), api.ErrPower)
	mustBe(t, d, 3, 0, 2, false, nil) // it waits, and its sector is in use
	mustCount(t, d, 0, 2, 0)
	mustBeOff(t, d)
	d.Crash([]byte{0, size})
	mustBe(t, d, 3, 1, 0, true, append(make([]byte, size), bytes.Repeat([]byte{2}, size)...))
	mustRead(t, d, 0, all(0))
	mustRead(t, d, 1, all(2))
}

func TestPowerGoesWithAFlush(t *testing.T) {
	d := mustMake(t, 3, 3)
	mustSay(t, "Write", d.Write(2, all(1)), api.OK)
	d.Cut(0)
	mustSay(t, "Flush", d.Flush(), api.ErrPower)
	mustBe(t, d, 3, 2, 1, false, nil) // nothing was done
	mustCount(t, d, 0, 1, 1)
	mustBeOff(t, d)
	d.Crash(nil)
	mustBe(t, d, 3, 3, 0, true, nil)
	d.Cut(0)
	mustSay(t, "Flush of nothing", d.Flush(), api.ErrPower)
	mustBe(t, d, 3, 3, 0, false, nil)
	mustCount(t, d, 0, 1, 2)
}

func TestRefusedAheadOfThePowerGoing(t *testing.T) {
	d := mustMake(t, 3, 1)
	mustSay(t, "Write", d.Write(0, all(1)), api.OK)
	d.Cut(0)
	mustSay(t, "Write", d.Write(3, all(1)), api.ErrRange)
	mustSay(t, "Write", d.Write(1, all(1)), api.ErrFull)
	mustRead(t, d, 0, all(1))
	mustBe(t, d, 3, 0, 1, true, nil)
	mustSay(t, "Write", d.Write(0, all(2)), api.ErrPower)
	mustBe(t, d, 3, 0, 2, false, nil)
}

// P6.3: cuts, crashes and the meter.

func TestCut(t *testing.T) {
	for cut := range 8 {
		d := mustMake(t, 4, 4)
		d.Cut(cut)
		for done := range 12 {
			mustRead(t, d, 0, behind(done)) // reads don't count
			if _, e := d.Read(4); e != api.ErrRange {
				t.Fatal(e)
			}
			mustSay(t, "Write", d.Write(-1, all(1)), api.ErrRange)
			want := api.OK
			if done == cut {
				want = api.ErrPower
			}
			if done%3 == 1 {
				mustSay(t, "Flush", d.Flush(), want)
			} else {
				mustSay(t, "Write", d.Write(0, all(byte(done+1))), want)
			}
			if d.On() != (want == api.OK) {
				t.Fatal("cut", cut, "done", done, "on", d.On())
			}
			if want != api.OK {
				mustBeOff(t, d)
				break
			}
		}
	}
}

// behind is what sector 0 has behind so many operations, of which each third one, from the second on, is a flush.
func behind(done int) [size]byte {
	if done%3 == 2 {
		done--
	}
	return all(byte(done))
}

func TestNoCut(t *testing.T) {
	for _, n := range []int{-1, -2, -256, -1 << 32, least, least + 1} {
		d := mustMake(t, 2, 2)
		d.Cut(0)
		d.Cut(n) // the last one holds
		mustWork(t, d)
	}
	mustWork(t, mustMake(t, 2, 2)) // at first the power doesn't go
	mustWork(t, mustLoad(t, []byte{1}, 2, 2))
	for _, n := range []int{most, most - 1, 1 << 32, 1 << 62, 1 << 8, 1 << 16} { // not so soon
		d := mustMake(t, 2, 2)
		d.Cut(n)
		for range 200 {
			mustSay(t, "Write", d.Write(1, all(1)), api.OK)
		}
		mustSay(t, "Flush", d.Flush(), api.OK)
	}
}

// mustWork holds that the power doesn't go.
func mustWork(t *testing.T, d *disk.Disk) {
	t.Helper()
	for at := range 300 {
		mustSay(t, "Write", d.Write(at%2, all(byte(at))), api.OK)
		if at%5 == 0 {
			mustSay(t, "Flush", d.Flush(), api.OK)
		}
		if !d.On() {
			t.Fatal("the power is off")
		}
	}
}

func TestCutBeginsAnew(t *testing.T) {
	d := mustMake(t, 2, 2)
	d.Cut(2)
	mustSay(t, "Write", d.Write(0, all(1)), api.OK)
	d.Cut(2)
	mustSay(t, "Write", d.Write(0, all(2)), api.OK)
	mustSay(t, "Flush", d.Flush(), api.OK)
	mustSay(t, "Flush", d.Flush(), api.ErrPower)
}

func TestCutBringsNoPower(t *testing.T) {
	for _, n := range []int{-1, 0, 5, most, least} {
		d := mustMake(t, 2, 2)
		d.Cut(0)
		mustSay(t, "Flush", d.Flush(), api.ErrPower)
		d.Cut(n)
		mustBeOff(t, d)
		d.Crash(nil)
		mustWork(t, d) // a crash ends a cut, too
	}
}

func TestCrashEndsACut(t *testing.T) {
	for _, n := range []int{0, 1, 100} { // while the power is on
		d := mustMake(t, 2, 2)
		d.Cut(n)
		d.Crash([]byte{1, 2})
		mustWork(t, d)
	}
}

func TestRefusedDoNotCount(t *testing.T) {
	d := mustMake(t, 3, 1)
	d.Cut(2)
	mustSay(t, "Write", d.Write(1, all(1)), api.OK)
	for range 5 {
		mustSay(t, "Write", d.Write(0, all(1)), api.ErrFull)
		mustSay(t, "Write", d.Write(3, all(1)), api.ErrRange)
		mustRead(t, d, 2, all(0))
		d.Image()
		d.Size()
		d.Left()
		d.Waits()
		d.On()
		d.Meter()
	}
	mustSay(t, "Flush", d.Flush(), api.OK)
	mustSay(t, "Write", d.Write(0, all(1)), api.ErrFull)
	mustSay(t, "Write", d.Write(1, all(1)), api.ErrPower)
}

// torn is a sector's first so many bytes over another one's.
func torn(over, b [size]byte, many int) [size]byte {
	for at := 0; at < size && at < many; at++ {
		over[at] = b[at]
	}
	return over
}

func TestExample(t *testing.T) {
	d := mustMake(t, 1, 1)
	mustSay(t, "Write", d.Write(0, all(7)), api.OK)
	d.Crash([]byte{2})
	mustBe(t, d, 1, 0, 0, true, []byte{7, 7})
	mustRead(t, d, 0, torn(all(0), all(7), 2))
}

func TestEachChoice(t *testing.T) {
	for choice := range 256 {
		for _, flushed := range []bool{false, true} {
			d := mustMake(t, 2, 1)
			old, left := all(0), 1
			if flushed {
				old, left = all(0xa5), 0
				mustSay(t, "Write", d.Write(1, old), api.OK)
				mustSay(t, "Flush", d.Flush(), api.OK)
			}
			mustSay(t, "Write", d.Write(1, all(0x3c)), api.OK)
			d.Crash([]byte{byte(choice)})
			if choice > 0 {
				left = 0
			}
			want := torn(old, all(0x3c), choice)
			mustBe(t, d, 2, left, 0, true, append(make([]byte, size), want[:]...))
			mustRead(t, d, 1, want)
			full := api.OK
			if left == 0 {
				full = api.ErrFull
			}
			mustSay(t, "Write", d.Write(0, all(1)), full)
		}
	}
}

func TestChoicesAndPieces(t *testing.T) {
	edges := []byte{0, 1, 2, size - 1, size, size + 1, 255}
	for many := range 4 {
		for run := range 200 {
			l := lot(run*4 + many)
			var choices []byte
			for range many {
				choices = append(choices, edges[l.below(len(edges))])
			}
			d := mustMake(t, 3, 3)
			var want [3][size]byte
			used := map[int]bool{}
			for at := range 3 { // as many choices, fewer, or more
				n, b := l.below(3), l.sector()
				mustSay(t, "Write", d.Write(n, b), api.OK)
				if at < many && choices[at] > 0 {
					want[n] = torn(want[n], b, int(choices[at]))
					used[n] = true
				}
			}
			was := bytes.Clone(choices)
			d.Crash(choices)
			if !bytes.Equal(was, choices) {
				t.Fatal("the choices were changed")
			}
			mustBe(t, d, 3, 3-len(used), 0, true, slices.Concat(want[0][:], want[1][:], want[2][:]))
		}
	}
	d := mustMake(t, 3, 3)
	mustSay(t, "Write", d.Write(1, all(1)), api.OK)
	d.Crash([]byte{3, 4, 5, 6}) // those behind are of no piece
	mustBe(t, d, 3, 2, 0, true, append(make([]byte, size), 1, 1, 1))
	d.Crash([]byte{9, 9}) // nothing waits
	mustBe(t, d, 3, 2, 0, true, append(make([]byte, size), 1, 1, 1))
}

func TestPiecesOfOneSector(t *testing.T) {
	d := mustLoad(t, bytes.Repeat([]byte{9}, size), 1, 1)
	for at := range 4 {
		mustSay(t, "Write", d.Write(0, all(byte(at+1))), api.OK)
	}
	mustRead(t, d, 0, all(4))
	d.Crash([]byte{5, 0, 3, 1})
	want := append([]byte{4, 3, 3, 1, 1}, bytes.Repeat([]byte{9}, size-5)...)
	mustBe(t, d, 1, 0, 0, true, want)
	for at := range 3 {
		mustSay(t, "Write", d.Write(0, all(byte(at+1))), api.OK)
	}
	d.Crash([]byte{size, 255, 2}) // the second one whole, over the first one
	mustBe(t, d, 1, 0, 0, true, append([]byte{3, 3}, bytes.Repeat([]byte{2}, size-2)...))
}

func TestGoneIsInUseNoMore(t *testing.T) {
	d := mustMake(t, 5, 3)
	mustSay(t, "Write", d.Write(0, all(1)), api.OK)
	mustSay(t, "Flush", d.Flush(), api.OK)
	mustSay(t, "Write", d.Write(0, all(2)), api.OK) // in use by what was flushed, too
	mustSay(t, "Write", d.Write(4, all(3)), api.OK)
	mustSay(t, "Write", d.Write(4, all(4)), api.OK)
	mustSay(t, "Write", d.Write(3, all(5)), api.OK)
	mustBe(t, d, 5, 0, 4, true, bytes.Repeat([]byte{1}, size))
	mustSay(t, "Write", d.Write(2, all(6)), api.ErrFull)
	d.Crash([]byte{0, 1, 0, 0}) // of 4 the first piece alone is kept
	mustRead(t, d, 0, all(1))
	mustRead(t, d, 3, all(0))
	mustRead(t, d, 4, torn(all(0), all(3), 1))
	if d.Left() != 1 {
		t.Fatal(d.Left())
	}
	mustSay(t, "Write", d.Write(2, all(6)), api.OK)
	mustSay(t, "Write", d.Write(3, all(6)), api.ErrFull)
	mustSay(t, "Write", d.Write(4, all(7)), api.OK)
	d.Crash([]byte{0, 0})
	if d.Left() != 1 {
		t.Fatal(d.Left())
	}
	mustRead(t, d, 2, all(0))
	mustRead(t, d, 4, torn(all(0), all(3), 1))
	mustSay(t, "Write", d.Write(3, all(6)), api.OK)
}

func TestMeter(t *testing.T) {
	d := mustMake(t, 3, 1)
	mustCount(t, d, 0, 0, 0)
	mustSay(t, "Flush", d.Flush(), api.OK) // of nothing
	mustCount(t, d, 0, 0, 1)
	mustRead(t, d, 2, all(0))
	mustCount(t, d, 1, 0, 1)
	mustSay(t, "Write", d.Write(2, all(1)), api.OK)
	mustCount(t, d, 1, 1, 1)
	mustSay(t, "Write", d.Write(1, all(1)), api.ErrFull)
	mustSay(t, "Write", d.Write(3, all(1)), api.ErrRange)
	if _, e := d.Read(-1); e != api.ErrRange {
		t.Fatal(e)
	}
	mustCount(t, d, 1, 1, 1)
	d.Cut(0)
	mustSay(t, "Write", d.Write(2, all(1)), api.ErrPower) // the power goes with it: it counts
	mustCount(t, d, 1, 2, 1)
	mustBeOff(t, d) // counts nothing
	d.Crash([]byte{1})
	mustCount(t, d, 1, 2, 1) // nor does a crash
	d.Cut(0)
	mustSay(t, "Flush", d.Flush(), api.ErrPower)
	mustCount(t, d, 1, 2, 2)
	d.Crash(nil)
	d.Image()
	mustCount(t, d, 1, 2, 2)
	if n := d.Meter().Take(api.MeterWrite); n != 2 { // it is the disk's own
		t.Fatal(n)
	}
	mustSay(t, "Write", d.Write(2, all(1)), api.OK)
	mustCount(t, d, 1, 1, 2)
	if mustMake(t, 1, 1).Meter() == d.Meter() {
		t.Fatal("two disks have one meter")
	}
}

// P6.4: what was flushed is kept, and disks that are none.

func TestWhatWasFlushedIsKept(t *testing.T) {
	for run := range 300 {
		l := lot(run + 1000)
		d := mustMake(t, 6, 6)
		var want [6][size]byte
		for n := range 6 {
			want[n] = l.sector()
			mustSay(t, "Write", d.Write(n, all(byte(run))), api.OK)
			mustSay(t, "Write", d.Write(n, want[n]), api.OK)
		}
		mustSay(t, "Flush", d.Flush(), api.OK)
		for range 4 {
			waits := map[int]bool{}
			d.Cut(l.below(12))
			for d.On() && l.below(9) > 0 {
				n := l.below(3) // sectors behind aren't written any more
				d.Write(n, l.sector())
				waits[n] = true
			}
			was := d.Image()
			var choices []byte
			for range l.below(14) {
				choices = append(choices, byte(l.below(256)))
			}
			d.Crash(choices)
			for n := range 6 {
				if waits[n] {
					continue
				}
				var b [size]byte
				copy(b[:], was[n*size:])
				mustRead(t, d, n, b)
				if n >= 3 {
					mustRead(t, d, n, want[n])
				}
			}
			if d.Left() != 0 {
				t.Fatal(d.Left())
			}
		}
	}
}

func TestNone(t *testing.T) {
	var plain disk.Disk
	for _, d := range []*disk.Disk{nil, &plain, {}, new(disk.Disk)} {
		for range 2 {
			for _, n := range []int{0, 1, -1, least, most} {
				if b, e := d.Read(n); e != api.ErrNil || b != all(0) {
					t.Fatal(b, e)
				}
				mustSay(t, "Write", d.Write(n, all(1)), api.ErrNil)
				d.Cut(n)
			}
			mustSay(t, "Flush", d.Flush(), api.ErrNil)
			d.Crash(nil)
			d.Crash([]byte{1, 2})
			if d.Size() != 0 || d.Left() != 0 || d.On() || d.Waits() != 0 || len(d.Image()) != 0 {
				t.Fatal(d.Size(), d.Left(), d.On(), d.Waits(), d.Image())
			}
			if m := d.Meter(); m != (*meter.Meter)(nil) {
				t.Fatal(m)
			}
		}
	}
}

// All promises at once: long runs of whatever calls, held against the chapter's words.

// said is a disk by the words: everything is worked out anew of what was kept and of what waits.
type said struct {
	kept  [][size]byte
	used  []bool // by what is kept
	waits []wait
	room  int
	cut   int
	on    bool
	count [3]int
}

type wait struct {
	n int
	b [size]byte
}

func (s *said) inUse(n int) bool {
	for _, w := range s.waits {
		if w.n == n {
			return true
		}
	}
	return s.used[n]
}

func (s *said) left() int {
	left := s.room
	for n := range s.used {
		if s.inUse(n) {
			left--
		}
	}
	return left
}

func (s *said) read(n int) ([size]byte, api.Errno) {
	switch {
	case !s.on:
		return all(0), api.ErrPower
	case n < 0 || n >= len(s.kept):
		return all(0), api.ErrRange
	}
	s.count[0]++
	b := s.kept[n]
	for _, w := range s.waits {
		if w.n == n {
			b = w.b
		}
	}
	return b, api.OK
}

// goes is whether the power goes with this operation.
func (s *said) goes() bool {
	if s.cut != 0 {
		s.cut = max(s.cut-1, -1)
		return false
	}
	s.on = false
	return true
}

func (s *said) write(n int, b [size]byte) api.Errno {
	switch {
	case !s.on:
		return api.ErrPower
	case n < 0 || n >= len(s.kept):
		return api.ErrRange
	case !s.inUse(n) && s.left() == 0:
		return api.ErrFull
	}
	s.count[1]++
	s.waits = append(s.waits, wait{n, b})
	if s.goes() {
		return api.ErrPower
	}
	return api.OK
}

func (s *said) flush() api.Errno {
	if !s.on {
		return api.ErrPower
	}
	s.count[2]++
	if s.goes() {
		return api.ErrPower
	}
	for _, w := range s.waits {
		s.kept[w.n], s.used[w.n] = w.b, true
	}
	s.waits = nil
	return api.OK
}

func (s *said) crash(choices []byte) {
	for at, w := range s.waits {
		if at < len(choices) && choices[at] > 0 {
			s.kept[w.n], s.used[w.n] = torn(s.kept[w.n], w.b, int(choices[at])), true
		}
	}
	s.waits, s.on, s.cut = nil, true, -1
}

func (s *said) image() []byte {
	var image []byte
	for _, b := range s.kept {
		image = append(image, b[:]...)
	}
	return image
}

// begin is a disk, and the same one by the words.
func begin(t *testing.T, l *lot) (*disk.Disk, *said) {
	t.Helper()
	sectors := 1 + l.below(7)
	room := l.below(sectors + 1)
	s := &said{kept: make([][size]byte, sectors), used: make([]bool, sectors), room: room, cut: -1, on: true}
	if l.below(2) == 0 {
		return mustMake(t, sectors, room), s
	}
	image := make([]byte, l.below(room*size+1))
	for at := range image {
		image[at] = byte(l.below(256))
		s.kept[at/size][at%size] = image[at]
		s.used[at/size] = true
	}
	return mustLoad(t, image, sectors, room), s
}

// step does one call with both, and holds the answers.
func step(t *testing.T, l *lot, d *disk.Disk, s *said) {
	t.Helper()
	n := l.below(len(s.kept)+2) - 1
	switch l.below(16) {
	case 0, 1, 2, 3:
		got, e := d.Read(n)
		if want, w := s.read(n); got != want || e != w {
			t.Fatalf("Read(%d) = %v, %d, not %v, %d", n, got, e, want, w)
		}
	case 4, 5, 6, 7, 8, 9, 10:
		b := l.sector()
		mustSay(t, "Write", d.Write(n, b), s.write(n, b))
	case 11, 12:
		mustSay(t, "Flush", d.Flush(), s.flush())
	case 13:
		cut := l.below(14) - 3
		d.Cut(cut)
		s.cut = cut
	default:
		if s.on && l.below(3) > 0 {
			return
		}
		var choices []byte
		for range l.below(len(s.waits) + 2) {
			choices = append(choices, []byte{0, 0, 1, size - 1, size, 255, byte(l.below(256))}[l.below(7)])
		}
		d.Crash(choices)
		s.crash(choices)
	}
}

func TestLongRuns(t *testing.T) {
	for run := range 400 {
		l := lot(run)
		d, s := begin(t, &l)
		for range 200 {
			step(t, &l, d, s)
			mustBe(t, d, len(s.kept), s.left(), len(s.waits), s.on, s.image())
			mustCount(t, d, s.count[0], s.count[1], s.count[2])
		}
		for n := range s.kept {
			got, e := d.Read(n)
			if want, w := s.read(n); got != want || e != w {
				t.Fatalf("Read(%d) = %v, %d, not %v, %d", n, got, e, want, w)
			}
		}
	}
}

func TestGreatDisk(t *testing.T) {
	d := mustMake(t, api.MaxSectors, api.MaxSectors)
	for n := range api.MaxSectors {
		mustSay(t, "Write", d.Write(n, all(byte(n))), api.OK)
	}
	mustSay(t, "Flush", d.Flush(), api.OK)
	for n := range api.MaxSectors {
		mustSay(t, "Write", d.Write(n, all(byte(n+1))), api.OK)
		mustRead(t, d, n, all(byte(n+1)))
	}
	choices := make([]byte, api.MaxSectors)
	for n := range choices {
		choices[n] = byte(n)
	}
	d.Crash(choices)
	for n := range api.MaxSectors {
		mustRead(t, d, n, torn(all(byte(n)), all(byte(n+1)), n%256))
	}
	mustBe(t, d, api.MaxSectors, 0, 0, true, d.Image())
}
