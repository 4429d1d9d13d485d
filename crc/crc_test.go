package crc_test

import (
	"bytes"
	"testing"

	"tompion/crc"
)

// steps are the document's, bit by bit: the 32 bits that a text leaves of those given, the lowest first.
func steps(bits [32]bool, b []byte) [32]bool {
	const turns = "11101101101110001000001100100000" // edb88320, the highest first
	for _, x := range b {
		for i := range 8 {
			bits[i] = bits[i] != (x>>i%2 == 1)
		}
		for range 8 {
			out := bits[0]
			copy(bits[:], bits[1:])
			bits[31] = false
			for i := range bits {
				bits[i] = bits[i] != (out && turns[31-i] == '1')
			}
		}
	}
	return bits
}

// turned is a sum's 32 bits, the lowest first, each the other way.
func turned(sum uint32) (bits [32]bool) {
	for i := range bits {
		bits[i] = sum>>i%2 == 0
	}
	return bits
}

// number is the sum that 32 bits come to behind the last byte.
func number(bits [32]bool) (sum uint32) {
	for i, one := range bits {
		if !one {
			sum += 1 << i
		}
	}
	return sum
}

// wanted is a text's sum by the document's words.
func wanted(b []byte) uint32 {
	var ones [32]bool
	for i := range ones {
		ones[i] = true
	}
	return number(steps(ones, b))
}

// some is a text of so many bytes, another one for each seed.
func some(many, seed int) []byte {
	b := make([]byte, many)
	n := uint64(seed)*2654435761 + 12345
	for i := range b {
		n = n*6364136223846793005 + 1442695040888963407
		b[i] = byte(n >> 56)
	}
	return b
}

// texts are all of one byte and less, and some of every length up to some hundred, noughts and ones among them.
func texts() [][]byte {
	l := [][]byte{nil, {}, []byte("123456789"), []byte("tompion")}
	for x := range 256 {
		l = append(l, []byte{byte(x)})
	}
	for many := range 300 {
		l = append(l, some(many, many), bytes.Repeat([]byte{0}, many), bytes.Repeat([]byte{255}, many))
	}
	return append(l, some(5000, 1))
}

// sums are such as may be a text's: each bit alone, all of a byte, none and all.
func sums() []uint32 {
	l := []uint32{0, 0xffffffff, 0xcbf43926, 0x12345678, 0x80000001}
	for k := range 32 {
		l = append(l, 1<<k, ^uint32(1<<k))
	}
	for x := range uint32(256) {
		l = append(l, x, x<<8, x<<24, ^x)
	}
	return l
}

// exclusive is what texts of one length come to, each turned by the others.
func exclusive(parts ...[]byte) []byte {
	b := make([]byte, len(parts[0]))
	for _, part := range parts {
		for i, x := range part {
			b[i] ^= x
		}
	}
	return b
}

// P2.1, the chapter's example.
func TestExample(t *testing.T) {
	if s := crc.Sum([]byte("123456789")); s != 0xcbf43926 {
		t.Errorf("sum %x", s)
	}
}

// P2.1: one part is summed by the document's words.
func TestSumOfOne(t *testing.T) {
	for _, b := range texts() {
		if got, want := crc.Sum(b), wanted(b); got != want {
			t.Errorf("%x: sum %x, not %x", b, got, want)
		}
	}
}

// P2.1: no part, and empty ones, are the empty text.
func TestSumOfNone(t *testing.T) {
	none := wanted(nil)
	if none != 0 {
		t.Fatalf("the empty text's sum is %x by the words", none)
	}
	for many := range 5 {
		for _, empty := range [][]byte{nil, {}} {
			parts := make([][]byte, many)
			for i := range parts {
				parts[i] = empty
			}
			if got := crc.Sum(parts...); got != none {
				t.Errorf("%d empty parts: %x", many, got)
			}
		}
	}
	if got := crc.Sum([][]byte(nil)...); got != none {
		t.Errorf("no list of parts: %x", got)
	}
}

// P2.1: wherever a text is cut, its parts have its sum; empty ones between them change nothing, their order does.
func TestSumOfParts(t *testing.T) {
	b := some(60, 7)
	want := wanted(b)
	for i := range len(b) + 1 {
		for k := i; k <= len(b); k++ {
			if got := crc.Sum(nil, b[:i], []byte{}, b[i:k], nil, b[k:]); got != want {
				t.Errorf("cut at %d and %d: %x, not %x", i, k, got, want)
			}
		}
	}
	if crc.Sum(b[30:], b[:30]) == want {
		t.Error("parts in another order have the same sum")
	}
}

// P2.1: many parts, of one byte each, and of lengths that differ.
func TestSumOfMany(t *testing.T) {
	b := some(20000, 8)
	want := wanted(b)
	var single, growing [][]byte
	for _, x := range b {
		single = append(single, []byte{x})
	}
	for at, size := 0, 0; at < len(b); at, size = at+size, size+1 {
		growing = append(growing, b[at:min(at+size, len(b))])
	}
	if got := crc.Sum(single...); got != want {
		t.Errorf("single bytes: %x, not %x", got, want)
	}
	if got := crc.Sum(growing...); got != want {
		t.Errorf("growing parts: %x, not %x", got, want)
	}
}

// P2.1: More goes on where the sum of the text ahead left off.
func TestMore(t *testing.T) {
	for _, b := range texts() {
		for _, cut := range []int{0, 1, len(b) / 2, len(b) - 1, len(b)} {
			cut = max(0, min(cut, len(b)))
			if got, want := crc.More(wanted(b[:cut]), b[cut:]), wanted(b); got != want {
				t.Errorf("%x, cut at %d: %x, not %x", b, cut, got, want)
			}
		}
	}
}

// P2.1: of every number as a sum; nothing behind it leaves it.
func TestMoreOfAnySum(t *testing.T) {
	for _, sum := range sums() {
		if crc.More(sum, nil) != sum || crc.More(sum, []byte{}) != sum {
			t.Errorf("%x with nothing behind it is another one", sum)
		}
		for _, b := range [][]byte{{0}, {1}, {255}, some(5, 1), some(129, 2)} {
			if got, want := crc.More(sum, b), number(steps(turned(sum), b)); got != want {
				t.Errorf("%x and %x: %x, not %x", sum, b, got, want)
			}
		}
	}
}

// P2.1: a sum's bytes, the lowest first.
func TestBytes(t *testing.T) {
	if b := crc.Bytes(0xcbf43926); b != [4]byte{0x26, 0x39, 0xf4, 0xcb} {
		t.Errorf("bytes %x", b)
	}
	for _, sum := range sums() {
		rest := sum
		for i, x := range crc.Bytes(sum) {
			if uint32(x) != rest%256 {
				t.Errorf("%x: byte %d is %x", sum, i, x)
			}
			rest /= 256
		}
	}
}

// What is handed in stays as it was, and is not kept.
func TestArguments(t *testing.T) {
	b := some(40, 3)
	parts := [][]byte{b[:10], nil, b[10:]}
	want := crc.Sum(parts...)
	crc.More(1, b)
	if !bytes.Equal(b, some(40, 3)) || len(parts[0]) != 10 || parts[1] != nil || len(parts[2]) != 30 {
		t.Error("an argument is changed")
	}
	clear(b)
	if crc.Sum(some(40, 3)) != want {
		t.Error("a sum hangs on what was summed ahead of it")
	}
}

// P2.2: texts of one length, of every length from 0 on.
func TestThreeTurned(t *testing.T) {
	for many := range 300 {
		a, b, c := some(many, 1), some(many, 2), some(many, 3)
		nought, ones := make([]byte, many), bytes.Repeat([]byte{255}, many)
		for _, three := range [][3][]byte{{a, b, c}, {a, a, b}, {a, b, b}, {nought, a, b}, {ones, a, nought}, {a, a, a}} {
			got := crc.Sum(exclusive(three[:]...))
			if want := crc.Sum(three[0]) ^ crc.Sum(three[1]) ^ crc.Sum(three[2]); got != want {
				t.Errorf("%d bytes, %x: %x, not %x", many, three, got, want)
			}
		}
	}
}

// unlike asks whether a text's sum differs from that of the same text, turned from a place on by a difference of up to four bytes.
func unlike(t *testing.T, b []byte, at int, difference uint32) {
	t.Helper()
	other := bytes.Clone(b)
	for i := at; i < min(at+4, len(b)); i++ {
		other[i] ^= byte(difference >> (8 * (i - at)))
	}
	if !bytes.Equal(b, other) && crc.Sum(b) == crc.Sum(other) {
		t.Errorf("%x and %x have one sum", b, other)
	}
}

// P2.3: differences of one and two bits, and some of any bits, within four bytes at every place, up to both ends.
func TestFourBytes(t *testing.T) {
	for many := range 12 {
		b := some(many, 4)
		for at := range many {
			for k := range 32 {
				for j := range 32 {
					unlike(t, b, at, 1<<k|1<<j)
				}
			}
			for _, any := range sums() {
				unlike(t, b, at, any)
			}
		}
	}
	b := some(128, 5)
	for at := range b {
		for k := range 32 {
			unlike(t, b, at, 1<<k)
			unlike(t, b, at, 0xffffffff<<k)
			unlike(t, b, at, 0xedb88320<<k)
		}
	}
}

// P2.3: all of one byte, of two, and steps through all of four.
func TestEveryDifference(t *testing.T) {
	b := some(9, 6)
	for at := range b {
		for difference := range uint32(1 << 16) {
			unlike(t, b, at, difference)
		}
	}
	seen := map[uint32]uint32{}
	for k := range uint32(1 << 18) {
		text := k * 2654435769 // each k another one
		sum := crc.Sum([]byte{7}, []byte{byte(text), byte(text >> 8), byte(text >> 16), byte(text >> 24)}, []byte{9, 9})
		if ahead, ok := seen[sum]; ok {
			t.Fatalf("%x and %x have one sum", ahead, text)
		}
		seen[sum] = text
	}
}

// P2.3: by P2.2 what a difference turns a sum by is what its bits do, one turned by the other; so none of all the four bytes' differences leaves a sum if no bit's part of it comes to what some of the others' come to.
func TestNoDifferenceIsLost(t *testing.T) {
	nought := make([]byte, 128)
	for at := range len(nought) - 3 {
		var apart []uint32 // each with a highest bit of its own
		for k := range 32 {
			b := bytes.Clone(nought)
			b[at+k/8] = 1 << (k % 8)
			left := crc.Sum(b) ^ crc.Sum(nought)
			for _, other := range apart {
				left = min(left, left^other)
			}
			if left == 0 {
				t.Fatalf("at %d: bit %d does what others do", at, k)
			}
			apart = append(apart, left)
		}
	}
}
