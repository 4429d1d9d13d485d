package seal_test

import (
	"bytes"
	"math"
	"slices"
	"testing"

	"tompion/api"
	"tompion/seal"
)

const (
	least = math.MinInt
	most  = math.MaxInt
	size  = api.Sector

	summed = 123 // bytes ahead of the sum
	mark   = 215
)

// sum is a text's by the words of layer 2, bit by bit.
func sum(b []byte) uint32 {
	bits := uint32(0xffffffff)
	for _, x := range b {
		bits ^= uint32(x)
		for range 8 {
			out := bits % 2
			bits /= 2
			if out == 1 {
				bits ^= 0xedb88320
			}
		}
	}
	return ^bits
}

// closed is a sector of 123 bytes, whatever they are, with their sum and the mark behind them.
func closed(text []byte) (b [size]byte) {
	copy(b[:summed], text)
	s := sum(b[:summed])
	for i := range 4 {
		b[summed+i] = byte(s >> (8 * i))
	}
	b[size-1] = mark
	return b
}

// again is a sector with the sum and the mark that are right for its bytes as they are.
func again(b [size]byte) [size]byte {
	return closed(b[:summed])
}

// wanted is a sealed sector by the chapter's words.
func wanted(kind, number int, load []byte) [size]byte {
	text := []byte{byte(kind)}
	for i := range 8 {
		text = append(text, byte(uint64(number)>>(8*i)))
	}
	text = append(text, byte(len(load)))
	text = append(text, load...)
	return closed(text)
}

// told is what Open has to answer by the chapter's words, part by part.
func told(b [size]byte, kind int) (number int, load []byte, e api.Errno) {
	many := int(b[9])
	if kind < 1 || kind > 255 || int(b[0]) != kind || b[8] >= 128 || many > api.MaxLoad {
		return 0, nil, api.ErrSeal
	}
	for _, x := range b[10+many : summed] {
		if x != 0 {
			return 0, nil, api.ErrSeal
		}
	}
	if b != again(b) {
		return 0, nil, api.ErrSeal
	}
	for i := range 8 {
		number |= int(b[1+i]) << (8 * i)
	}
	return number, b[10 : 10+many], api.OK
}

// lot draws numbers that are the same at each run.
type lot uint64

func (l *lot) below(n int) int {
	*l = *l*6364136223846793005 + 1442695040888963407
	return int(uint64(*l)>>33) % n
}

// bytes are so many, none of them a nought.
func (l *lot) bytes(many int) []byte {
	b := make([]byte, many)
	for i := range b {
		b[i] = byte(1 + l.below(255))
	}
	return b
}

// number is one of any width that isn't below 0.
func (l *lot) number() int {
	n := l.below(1<<31)<<32 | l.below(1<<31)<<1 | l.below(2)
	return n >> l.below(63)
}

func (l *lot) sector() [size]byte {
	return [size]byte(l.bytes(size))
}

// made is what Make has to make.
func made(t *testing.T, kind, number int, load []byte) [size]byte {
	t.Helper()
	b, e := seal.Make(kind, number, load)
	if want := wanted(kind, number, load); e != api.OK || b != want {
		t.Fatalf("Make(%d, %d, %x) = %x, %d, not %x", kind, number, load, b, e, want)
	}
	return b
}

// mustOpen holds what a sector opens as.
func mustOpen(t *testing.T, b [size]byte, kind, number int, load []byte) {
	t.Helper()
	n, l, e := seal.Open(b, kind)
	if e != api.OK || n != number || !bytes.Equal(l, load) {
		t.Fatalf("Open(%x, %d) = %d, %x, %d, not %d, %x", b, kind, n, l, e, number, load)
	}
}

// mustNotOpen holds that a sector doesn't open as of a kind.
func mustNotOpen(t *testing.T, b [size]byte, kind int) {
	t.Helper()
	if n, l, e := seal.Open(b, kind); e != api.ErrSeal || n != 0 || len(l) != 0 {
		t.Fatalf("Open(%x, %d) = %d, %x, %d", b, kind, n, l, e)
	}
}

// mustNotOpenAtAll holds that a sector opens as of no kind: neither its own, nor some others, nor some that there are not.
func mustNotOpenAtAll(t *testing.T, b [size]byte, others ...int) {
	t.Helper()
	mustNotOpen(t, b, int(b[0]))
	for _, kind := range append([]int{0, 1, 4, 255, 256, -1}, others...) {
		mustNotOpen(t, b, kind)
	}
}

// noKinds are such as no sealed sector has; some of them have a kind's lowest byte.
func noKinds() []int {
	return []int{0, -1, -4, -252, -255, -256, 256, 257, 260, 511, 512, 1<<16 + 4, 1<<32 + 4, least, least + 4, most, most - 251}
}

// numbers are such as a sealed sector may have.
func numbers() []int {
	l := []int{0, 1, 2, 127, 128, 255, 256, 257, 258, 65535, 65536, 0x0102030405060708, 0x7f80ff00aa55cc33, most - 1, most}
	for k := range 63 {
		l = append(l, 1<<k)
	}
	return l
}

// loads are of lengths about all edges, and of bytes that end in noughts, and have none.
func loads() [][]byte {
	l := lot(3)
	out := [][]byte{nil, {}, {0}, {0, 0}, {1}, {mark}, []byte("ab"), {7, 0}, {0, 7}}
	for _, many := range []int{1, 2, 3, 50, 111, 112, api.MaxLoad} {
		out = append(out, l.bytes(many), make([]byte, many), bytes.Repeat([]byte{255}, many))
	}
	return out
}

// P7.1, the chapter's example.
func TestExample(t *testing.T) {
	b, e := seal.Make(4, 0, nil)
	if e != api.OK || b[0] != 4 || b[127] != 215 {
		t.Fatalf("Make(4, 0, nil) = %x, %d", b, e)
	}
}

// P7.1: what may be made.

func TestEachByte(t *testing.T) {
	load := []byte{9, 0, 215, 255, 1}
	b, e := seal.Make(3, 0x0807060504030201, load)
	if e != api.OK {
		t.Fatalf("error %d", e)
	}
	ahead := []byte{3, 1, 2, 3, 4, 5, 6, 7, 8, 5, 9, 0, 215, 255, 1}
	if !bytes.Equal(b[:len(ahead)], ahead) {
		t.Errorf("it begins with %x", b[:len(ahead)])
	}
	for at := len(ahead); at < summed; at++ {
		if b[at] != 0 {
			t.Errorf("byte %d is %d", at, b[at])
		}
	}
	s := sum(b[:summed])
	if b[123] != byte(s) || b[124] != byte(s>>8) || b[125] != byte(s>>16) || b[126] != byte(s>>24) || b[127] != mark {
		t.Errorf("behind the sum %x: %x", s, b[summed:])
	}
}

func TestMake(t *testing.T) {
	for _, kind := range []int{1, 2, 3, 4, 127, 128, 254, 255} {
		for _, number := range numbers() {
			for _, load := range loads() {
				made(t, kind, number, load)
			}
		}
	}
	for kind := 1; kind <= 255; kind++ {
		for many := 0; many <= api.MaxLoad; many++ {
			made(t, kind, kind*many, bytes.Repeat([]byte{byte(many)}, many))
		}
	}
}

// mustNotMake holds what hinders that a sector is made.
func mustNotMake(t *testing.T, kind, number, many int, want api.Errno) {
	t.Helper()
	if b, e := seal.Make(kind, number, bytes.Repeat([]byte{1}, many)); e != want || b != [size]byte{} {
		t.Fatalf("Make(%d, %d, %d bytes) = %x, %d, not %d", kind, number, many, b, e, want)
	}
}

// longs are lengths of loads that are too long; some of them have a right one's lowest byte.
func longs() []int {
	return []int{api.MaxLoad + 1, api.MaxLoad + 2, 118, 127, 128, 129, 255, 256, 257, 256 + api.MaxLoad, 1 << 16, 1 << 20}
}

func TestMakeRefuses(t *testing.T) {
	below := []int{-1, -2, -256, -1 << 32, least, least + 1}
	for _, many := range append(longs(), 0, 1, api.MaxLoad) {
		for _, kind := range noKinds() {
			for _, number := range append(below, 0, 1, most) {
				mustNotMake(t, kind, number, many, api.ErrArg)
			}
		}
		for _, number := range below {
			for _, kind := range []int{1, 4, 255} {
				mustNotMake(t, kind, number, many, api.ErrArg)
			}
		}
	}
	for _, many := range longs() {
		for _, kind := range []int{1, 4, 255} {
			for _, number := range []int{0, 1, most} {
				mustNotMake(t, kind, number, many, api.ErrLimit)
			}
		}
	}
}

// P7.1: what opens.

func TestOpenOfAnotherKind(t *testing.T) {
	for own := 1; own <= 255; own++ {
		load := []byte{byte(own), 2}
		b := made(t, own, own*1000, load)
		for kind := 1; kind <= 255; kind++ {
			if kind == own {
				mustOpen(t, b, own, own*1000, load)
				continue
			}
			mustNotOpen(t, b, kind)
		}
		for _, kind := range append(noKinds(), own+256, own-256, own+1<<32, -own, least+own) {
			mustNotOpen(t, b, kind)
		}
	}
}

// No sector is sealed whose first byte is no kind, though its sum is right.
func TestOpenOfNoKind(t *testing.T) {
	for _, load := range loads() {
		b := made(t, 4, 258, load)
		b[0] = 0
		for _, kind := range append(noKinds(), 1, 2, 3, 4, 255) {
			mustNotOpen(t, b, kind)
			mustNotOpen(t, again(b), kind)
			mustNotOpen(t, [size]byte{}, kind)
			mustNotOpen(t, closed(nil), kind)
		}
	}
}

// mustBeHeld holds that a changed sector isn't sealed with the sum that it had, and is what the words say with the sum that it needs.
func mustBeHeld(t *testing.T, b [size]byte) {
	t.Helper()
	mustNotOpenAtAll(t, b)
	whole := again(b)
	for _, kind := range []int{int(b[0]), 0, 4, 256} {
		number, load, e := told(whole, kind)
		if e == api.OK {
			mustOpen(t, whole, kind, number, load)
			continue
		}
		mustNotOpen(t, whole, kind)
	}
}

func TestOpenOfAnotherMark(t *testing.T) {
	for _, load := range loads() {
		b := made(t, 4, 258, load)
		for x := range 256 {
			if b[127] = byte(x); x != mark {
				mustNotOpenAtAll(t, b)
			}
		}
	}
}

func TestOpenOfAnotherSum(t *testing.T) {
	for _, load := range loads() {
		b := made(t, 4, 258, load)
		for at := summed; at < 127; at++ {
			other := b
			for x := 1; x < 256; x++ {
				other[at] = b[at] ^ byte(x)
				mustNotOpenAtAll(t, other)
			}
		}
		other := b
		slices.Reverse(other[summed:127])
		mustNotOpenAtAll(t, other)
		for _, x := range []byte{0, 255} {
			copy(other[summed:127], []byte{x, x, x, x})
			mustNotOpenAtAll(t, other)
		}
	}
}

func TestOpenOfAnotherNumber(t *testing.T) {
	for _, number := range []int{0, 258, most} {
		for _, load := range [][]byte{nil, []byte("ab"), make([]byte, api.MaxLoad)} {
			b := made(t, 4, number, load)
			for at := 1; at < 9; at++ {
				other := b
				for x := 1; x < 256; x++ {
					other[at] = b[at] ^ byte(x)
					mustBeHeld(t, other)
				}
			}
		}
	}
}

// Numbers below 0 are none, though the sum is right.
func TestOpenOfNoNumber(t *testing.T) {
	for _, number := range []int{-1, -2, -256, -1 << 32, least, least + 1} {
		for _, load := range loads() {
			b := wanted(4, number, load)
			mustNotOpenAtAll(t, b)
			mustOpen(t, wanted(4, number&most, load), 4, number&most, load)
		}
	}
}

// A load is neither shorter than its last byte that isn't a nought, nor longer than there is room, though the sum is right; with some noughts it is another load.
func TestOpenOfAnotherLength(t *testing.T) {
	for _, load := range loads() {
		b := made(t, 4, 258, load)
		last := len(bytes.TrimRight(load, "\x00"))
		for many := range 256 {
			if many == len(load) {
				continue
			}
			other := b
			other[9] = byte(many)
			mustNotOpenAtAll(t, other)
			if other = again(other); many < last || many > api.MaxLoad {
				mustNotOpenAtAll(t, other)
				continue
			}
			mustOpen(t, other, 4, 258, b[10:10+many])
		}
	}
}

func TestOpenOfNoNought(t *testing.T) {
	l := lot(4)
	for _, many := range []int{0, 1, 2, 50, 111, 112} {
		b := made(t, 4, 258, l.bytes(many))
		for at := 10 + many; at < summed; at++ {
			for _, x := range []byte{1, 2, 128, mark, 255} {
				other := b
				other[at] = x
				mustNotOpenAtAll(t, other)
				mustNotOpenAtAll(t, again(other))
			}
		}
	}
}

// P7.1: noughts alone are blank.
func TestBlank(t *testing.T) {
	if !seal.Blank([size]byte{}) {
		t.Error("noughts aren't blank")
	}
	for at := range size {
		for x := 1; x < 256; x++ {
			var b [size]byte
			b[at] = byte(x)
			if seal.Blank(b) {
				t.Fatalf("%d at %d is blank", x, at)
			}
		}
	}
	l := lot(5)
	for _, b := range [][size]byte{made(t, 1, 0, nil), made(t, 4, most, l.bytes(api.MaxLoad)), l.sector(), closed(nil)} {
		if seal.Blank(b) {
			t.Errorf("%x is blank", b)
		}
	}
}

// What is handed in stays, and what is handed out hangs on it no more.
func TestArguments(t *testing.T) {
	long := []byte{1, 2, 3, 4, 5}
	b := made(t, 4, 258, long[:3])
	if !bytes.Equal(long, []byte{1, 2, 3, 4, 5}) {
		t.Errorf("behind Make: %x", long)
	}
	long[0] = 9
	mustOpen(t, b, 4, 258, []byte{1, 2, 3})
	was := b
	_, one, _ := seal.Open(b, 4)
	_, two, _ := seal.Open(b, 4)
	one[0] = 7
	one = append(one, 8)
	if b != was || !bytes.Equal(two, []byte{1, 2, 3}) || !bytes.Equal(one, []byte{7, 2, 3, 8}) {
		t.Errorf("behind Open: %x, %x, %x", b, one, two)
	}
}

// P7.2: what is made is opened.
func TestMadeIsOpened(t *testing.T) {
	l := lot(6)
	for many := 0; many <= api.MaxLoad; many++ {
		for _, load := range [][]byte{l.bytes(many), make([]byte, many), append(make([]byte, many/2), l.bytes(many-many/2)...)} {
			for _, number := range append(numbers(), l.number(), l.number()) {
				for _, kind := range []int{1, 2, 3, 4, 128, 255, 1 + l.below(255)} {
					mustOpen(t, made(t, kind, number, load), kind, number, load)
				}
			}
		}
	}
}

// near is a sector that may be sealed, or miss it in any of its parts.
func near(l *lot) [size]byte {
	b := wanted(l.below(256), l.number(), l.bytes(l.below(api.MaxLoad+1)))
	for range l.below(3) {
		switch l.below(7) {
		case 0:
			b[l.below(size)] ^= byte(1 << l.below(8))
		case 1:
			b[9] = byte(l.below(256))
		case 2:
			b[8] ^= 128
		case 3:
			b[10+l.below(api.MaxLoad)] = 0
		case 4:
			b[0] = 0
		case 5:
			clear(b[10+l.below(api.MaxLoad) : summed])
		case 6:
			copy(b[l.below(size):], l.bytes(4))
		}
	}
	if l.below(4) > 0 {
		return again(b)
	}
	return b
}

// P7.2: whatever is opened was made so, byte for byte.
func TestOpenedWasMade(t *testing.T) {
	l := lot(7)
	opened, refused := 0, 0
	for range 200000 {
		b := near(&l)
		for _, kind := range []int{int(b[0]), l.below(256), int(b[0]) + 256} {
			number, load, e := told(b, kind)
			n, got, f := seal.Open(b, kind)
			if n != number || !bytes.Equal(got, load) || f != e {
				t.Fatalf("Open(%x, %d) = %d, %x, %d, not %d, %x, %d", b, kind, n, got, f, number, load, e)
			}
			if e != api.OK {
				refused++
				continue
			}
			opened++
			if b != made(t, kind, n, got) {
				t.Fatalf("%x opens, and wasn't made so", b)
			}
		}
	}
	if opened < 20000 || refused < 20000 {
		t.Errorf("%d opened, %d refused: they tell too little", opened, refused)
	}
}

// samples are sealed sectors.
func samples(t *testing.T) [][size]byte {
	t.Helper()
	l := lot(8)
	return [][size]byte{
		made(t, 1, 0, nil),
		made(t, 4, 258, []byte("ab")),
		made(t, 255, most, l.bytes(api.MaxLoad)),
		made(t, 3, 1<<40, make([]byte, api.MaxLoad)),
		made(t, 2, 5, l.bytes(60)),
		made(t, mark, mark, bytes.Repeat([]byte{mark}, api.MaxLoad)),
	}
}

// unmarked are sectors whose last byte isn't the mark: noughts, others, and sealed ones but for it.
func unmarked(t *testing.T) [][size]byte {
	t.Helper()
	l := lot(9)
	out := [][size]byte{{}, l.sector(), l.sector()}
	for _, x := range []byte{1, mark, 255} {
		out = append(out, [size]byte(bytes.Repeat([]byte{x}, size)))
	}
	for _, b := range samples(t) {
		out = append(out, b, b, b)
	}
	for i := range out {
		if last := &out[i][127]; *last == mark {
			*last = []byte{0, mark - 1, mark ^ 128, 255}[i%4]
		}
	}
	return out
}

// P7.3: torn over what isn't marked, nothing is sealed.
func TestTorn(t *testing.T) {
	for _, b := range samples(t) {
		for _, over := range unmarked(t) {
			for many := range size {
				torn := over
				copy(torn[:many], b[:many])
				mustNotOpenAtAll(t, torn, int(b[0]), int(over[0]), 2, 3)
			}
			mustOpenWhole(t, b, over)
		}
	}
}

// mustOpenWhole holds that all bytes of a sealed sector over another are it: so what hinders ahead is that they weren't all.
func mustOpenWhole(t *testing.T, b, over [size]byte) {
	t.Helper()
	copy(over[:], b[:])
	number, load, e := told(b, int(b[0]))
	if e != api.OK {
		t.Fatalf("%x is not sealed by the words", b)
	}
	mustOpen(t, over, int(b[0]), number, load)
}

// turns are what four bytes may be turned by; of each byte some bit is.
func turns() [][4]byte {
	l := lot(10)
	out := [][4]byte{{1, 1, 1, 1}, {128, 128, 128, 128}, {255, 255, 255, 255}, {1, 2, 4, 8}, {128, 64, 32, 16}, {0x20, 0x83, 0xb8, 0xed}, {0xed, 0xb8, 0x83, 0x20}, {mark, mark, mark, mark}}
	for range 40 {
		out = append(out, [4]byte(l.bytes(4)))
	}
	return out
}

// P7.4: turned within four bytes side by side, nothing is sealed.
func TestTurned(t *testing.T) {
	for _, b := range samples(t) {
		for at := range summed {
			for choice := 1; choice < 16; choice++ {
				if at+4 > summed && choice>>(summed-at) > 0 { // it would turn the sum, too
					continue
				}
				for _, turn := range turns() {
					turned := b
					for i := range 4 {
						if choice>>i%2 == 1 {
							turned[at+i] ^= turn[i]
						}
					}
					mustNotOpen(t, turned, int(b[0]))
					mustNotOpen(t, turned, int(turned[0]))
				}
			}
		}
	}
}

// P7.4: one byte turned in each way, opened as of several kinds.
func TestOneTurned(t *testing.T) {
	for _, b := range samples(t) {
		for at := range summed {
			for x := 1; x < 256; x++ {
				turned := b
				turned[at] ^= byte(x)
				mustNotOpenAtAll(t, turned, int(b[0]))
			}
		}
	}
}
