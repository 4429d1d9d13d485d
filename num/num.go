// Package num is layer 1, numbers as bytes: see shared/doc/01-num.md.
package num

import (
	"tompion/api"
)

const (
	wide      = 8   // bytes that Put makes of every number
	base      = 128 // of the digits in short bytes; what is from it on isn't the last byte
	digitBits = 7   // bits of such a digit

	mostNatural = 9  // short bytes of the greatest natural number
	mostTurned  = 10 // short bytes of the least number's turned one
)

// Put is a number's eight bytes.
func Put(n int) []byte {
	b := make([]byte, wide)
	for i := range b {
		b[i] = byte(uint64(n) >> (8 * i))
	}
	return b
}

// Get is the number of eight bytes.
func Get(b []byte) (int, api.Errno) {
	if len(b) < wide {
		return 0, api.ErrEnd
	}
	if len(b) > wide {
		return 0, api.ErrExtra
	}
	var n uint64
	for i, x := range b {
		n |= uint64(x) << (8 * i)
	}
	return int(n), api.OK
}

// Short is a natural number's short bytes.
func Short(n int) ([]byte, api.Errno) {
	if n < 0 {
		return nil, api.ErrArg
	}
	return write(uint64(n)), api.OK
}

// Long is the natural number that bytes begin with.
func Long(b []byte) (n, size int, e api.Errno) {
	return read[int](b, mostNatural)
}

// Zig is a number's short bytes, turned.
func Zig(n int) []byte {
	return write(turn(n))
}

// Zag is the number that bytes begin with, turned back.
func Zag(b []byte) (n, size int, e api.Errno) {
	turned, size, e := read[uint64](b, mostTurned)
	return turnBack(turned), size, e
}

// turn is a number's turned one. Twice a number below 0, with all bits the other way, is one less than twice as much as it is below 0: so the least number needs no wider type.
func turn(n int) uint64 {
	twice := uint64(n) << 1
	if n < 0 {
		return ^twice
	}
	return twice
}

// turnBack is the number whose turned one it is given.
func turnBack(turned uint64) int {
	n := int(turned >> 1)
	if turned%2 == 1 {
		return ^n
	}
	return n
}

// write is the short bytes of any number without a sign: turned ones fill all 64 bits, which natural numbers don't.
func write(n uint64) []byte {
	var b []byte
	for n >= base {
		b = append(b, byte(n%base+base))
		n /= base
	}
	return append(b, byte(n))
}

// read is the number that bytes begin with, of a type in which none has more short bytes than most, and how many it has.
func read[T int | uint64](b []byte, most int) (n T, size int, e api.Errno) {
	for i := range min(len(b), most) {
		digit := T(b[i] % base)
		shift := digitBits * i
		n |= digit << shift
		if b[i] >= base {
			continue
		}
		if i > 0 && digit == 0 { // it could have been left out
			return 0, 0, api.ErrForm
		}
		if n>>shift != digit { // its upper bits found no room in the type
			return 0, 0, api.ErrForm
		}
		return n, i + 1, api.OK
	}
	if len(b) < most {
		return 0, 0, api.ErrEnd
	}
	return 0, 0, api.ErrForm
}
