package num_test

import (
	"bytes"
	"math"
	"math/big"
	"testing"

	"tompion/api"
	"tompion/num"
)

// numbers are those where a length, a sign or a digit changes, and their neighbours.
func numbers() []int {
	l := []int{0, 300, 1234567890123456789, -1234567890123456789}
	for k := range 64 {
		p := 1 << k
		for d := -2; d <= 2; d++ {
			l = append(l, p+d, -p+d)
		}
	}
	return l
}

// chains are byte texts of every short shape, and of those around nine and ten bytes.
func chains() [][]byte {
	l := [][]byte{nil, {}}
	for a := range 256 {
		l = append(l, []byte{byte(a)})
		for b := range 256 {
			l = append(l, []byte{byte(a), byte(b)})
		}
	}
	ends := []byte{0, 1, 2, 3, 63, 64, 126, 127, 128, 129, 130, 254, 255}
	for many := range 13 {
		for _, fill := range []byte{128, 129, 200, 255} {
			head := bytes.Repeat([]byte{fill}, many)
			l = append(l, head)
			for _, a := range ends {
				one := append(bytes.Clone(head), a)
				l = append(l, one)
				for _, b := range ends {
					l = append(l, append(bytes.Clone(one), b))
				}
			}
		}
	}
	return l
}

// wanted reads short bytes by the document's words, with numbers of any size.
func wanted(b []byte, most int) (n *big.Int, size int, e api.Errno) {
	last := 0
	for last < len(b) && last < most && b[last] >= 128 {
		last++
	}
	switch {
	case last == len(b) && last < most:
		return big.NewInt(0), 0, api.ErrEnd
	case last == most, last > 0 && b[last] == 0, last == 9 && b[last] > 1:
		return big.NewInt(0), 0, api.ErrForm
	}
	n = big.NewInt(0)
	for i := last; i >= 0; i-- {
		n.Mul(n, big.NewInt(128))
		n.Add(n, big.NewInt(int64(b[i]%128)))
	}
	return n, last + 1, api.OK
}

// digits are a number's short bytes, by division.
func digits(n *big.Int) []byte {
	n, base, d := new(big.Int).Set(n), big.NewInt(128), new(big.Int)
	var b []byte
	for {
		n.DivMod(n, base, d)
		b = append(b, byte(d.Int64()))
		if n.Sign() == 0 {
			return b
		}
		b[len(b)-1] += 128
	}
}

// turned is a number's turned one, by the document's words.
func turned(n int) *big.Int {
	t := big.NewInt(int64(n))
	t.Mul(t, big.NewInt(2))
	if n < 0 {
		t.Neg(t)
		t.Sub(t, big.NewInt(1))
	}
	return t
}

// P1.1

func TestPutHasEightBytesLowestFirst(t *testing.T) {
	for _, c := range []struct {
		n    int
		want []byte
	}{
		{0, []byte{0, 0, 0, 0, 0, 0, 0, 0}},
		{1, []byte{1, 0, 0, 0, 0, 0, 0, 0}},
		{256, []byte{0, 1, 0, 0, 0, 0, 0, 0}},
		{0x0102030405060708, []byte{8, 7, 6, 5, 4, 3, 2, 1}},
		{-1, []byte{255, 255, 255, 255, 255, 255, 255, 255}},
		{-256, []byte{0, 255, 255, 255, 255, 255, 255, 255}},
		{math.MaxInt, []byte{255, 255, 255, 255, 255, 255, 255, 127}},
		{math.MinInt, []byte{0, 0, 0, 0, 0, 0, 0, 128}},
	} {
		if b := num.Put(c.n); !bytes.Equal(b, c.want) {
			t.Errorf("Put(%d) = %v, not %v", c.n, b, c.want)
		}
		if n, e := num.Get(c.want); n != c.n || e != api.OK {
			t.Errorf("Get(%v) = %d, %d, not %d", c.want, n, e, c.n)
		}
	}
}

func TestGetTellsHowManyBytesThereAre(t *testing.T) {
	for many := range 40 {
		want := api.OK
		if many < 8 {
			want = api.ErrEnd
		} else if many > 8 {
			want = api.ErrExtra
		}
		for _, fill := range []byte{0, 1, 128, 255} {
			n, e := num.Get(bytes.Repeat([]byte{fill}, many))
			if e != want || e != api.OK && n != 0 {
				t.Errorf("Get of %d bytes %d = %d, %d, not error %d", many, fill, n, e, want)
			}
		}
	}
	if n, e := num.Get(nil); n != 0 || e != api.ErrEnd {
		t.Errorf("Get(nil) = %d, %d", n, e)
	}
}

// P1.2

func TestShortHasFewDigitsLowestFirst(t *testing.T) {
	for n, want := range map[int][]byte{
		0:           {0},
		1:           {1},
		127:         {127},
		128:         {128, 1},
		300:         {0xac, 0x02},
		16383:       {255, 127},
		16384:       {128, 128, 1},
		math.MaxInt: {255, 255, 255, 255, 255, 255, 255, 255, 127},
	} {
		if b, e := num.Short(n); e != api.OK || !bytes.Equal(b, want) {
			t.Errorf("Short(%d) = %v, %d, not %v", n, b, e, want)
		}
	}
	for _, n := range numbers() {
		b, e := num.Short(n)
		if n < 0 {
			if e != api.ErrArg || len(b) != 0 {
				t.Errorf("Short(%d) = %v, %d, not ErrArg", n, b, e)
			}
			continue
		}
		if want := digits(big.NewInt(int64(n))); e != api.OK || !bytes.Equal(b, want) {
			t.Errorf("Short(%d) = %v, %d, not %v", n, b, e, want)
		}
	}
}

func TestLongTellsWhatIsWrong(t *testing.T) {
	full := bytes.Repeat([]byte{255}, 12)
	for _, c := range []struct {
		b       []byte
		n, size int
		e       api.Errno
	}{
		{nil, 0, 0, api.ErrEnd},
		{[]byte{}, 0, 0, api.ErrEnd},
		{[]byte{128}, 0, 0, api.ErrEnd},
		{full[:8], 0, 0, api.ErrEnd},
		{full[:9], 0, 0, api.ErrForm},
		{full[:12], 0, 0, api.ErrForm},
		{append(full[:9:9], 1), 0, 0, api.ErrForm},
		{[]byte{128, 0}, 0, 0, api.ErrForm},
		{[]byte{255, 128, 0, 5}, 0, 0, api.ErrForm},
		{append(full[:8:8], 0), 0, 0, api.ErrForm},
		{[]byte{0}, 0, 1, api.OK},
		{[]byte{0, 0}, 0, 1, api.OK},
		{[]byte{5, 9}, 5, 1, api.OK},
		{[]byte{0xac, 2, 255}, 300, 2, api.OK},
		{append(full[:8:8], 127), math.MaxInt, 9, api.OK},
		{append(full[:8:8], 127, 255, 0), math.MaxInt, 9, api.OK},
	} {
		n, size, e := num.Long(c.b)
		if n != c.n || size != c.size || e != c.e {
			t.Errorf("Long(%v) = %d, %d, %d, not %d, %d, %d", c.b, n, size, e, c.n, c.size, c.e)
		}
	}
}

func TestLongReadsAllChainsAsTheDocumentSays(t *testing.T) {
	for _, b := range chains() {
		want, size, e := wanted(b, 9)
		n, s, g := num.Long(b)
		if g != e || s != size || big.NewInt(int64(n)).Cmp(want) != 0 {
			t.Fatalf("Long(%v) = %d, %d, %d, not %v, %d, %d", b, n, s, g, want, size, e)
		}
	}
}

// P1.3

func TestZigIsTheTurnedOnesShortBytes(t *testing.T) {
	for n, want := range map[int][]byte{
		0:           {0},
		-1:          {1},
		1:           {2},
		-2:          {3},
		63:          {126},
		-64:         {127},
		64:          {128, 1},
		-65:         {129, 1},
		math.MaxInt: {254, 255, 255, 255, 255, 255, 255, 255, 255, 1},
		math.MinInt: {255, 255, 255, 255, 255, 255, 255, 255, 255, 1},
	} {
		if b := num.Zig(n); !bytes.Equal(b, want) {
			t.Errorf("Zig(%d) = %v, not %v", n, b, want)
		}
	}
	for _, n := range numbers() {
		if b, want := num.Zig(n), digits(turned(n)); !bytes.Equal(b, want) {
			t.Errorf("Zig(%d) = %v, not %v", n, b, want)
		}
	}
}

func TestZagTellsWhatIsWrong(t *testing.T) {
	full := bytes.Repeat([]byte{255}, 13)
	for _, c := range []struct {
		b       []byte
		n, size int
		e       api.Errno
	}{
		{nil, 0, 0, api.ErrEnd},
		{[]byte{200}, 0, 0, api.ErrEnd},
		{full[:9], 0, 0, api.ErrEnd},
		{full[:10], 0, 0, api.ErrForm},
		{full[:13], 0, 0, api.ErrForm},
		{append(full[:10:10], 1), 0, 0, api.ErrForm},
		{[]byte{129, 0}, 0, 0, api.ErrForm},
		{append(full[:9:9], 0), 0, 0, api.ErrForm},
		{append(full[:9:9], 2), 0, 0, api.ErrForm},
		{append(full[:9:9], 3), 0, 0, api.ErrForm},
		{append(full[:9:9], 127), 0, 0, api.ErrForm},
		{[]byte{0}, 0, 1, api.OK},
		{[]byte{1, 128}, -1, 1, api.OK},
		{[]byte{128, 1, 0, 0}, 64, 2, api.OK},
		{append(full[:8:8], 127), -1 << 62, 9, api.OK},
		{append(full[:9:9], 1), math.MinInt, 10, api.OK},
		{append(full[:9:9], 1, 255), math.MinInt, 10, api.OK},
	} {
		n, size, e := num.Zag(c.b)
		if n != c.n || size != c.size || e != c.e {
			t.Errorf("Zag(%v) = %d, %d, %d, not %d, %d, %d", c.b, n, size, e, c.n, c.size, c.e)
		}
	}
}

func TestZagReadsAllChainsAsTheDocumentSays(t *testing.T) {
	for _, b := range chains() {
		want, size, e := wanted(b, 10)
		n, s, g := num.Zag(b)
		if g != e || s != size || turned(n).Cmp(want) != 0 {
			t.Fatalf("Zag(%v) = %d, %d, %d, not of turned %v, %d, %d", b, n, s, g, want, size, e)
		}
	}
}

// P1.4

func TestWhatWasPutIsGot(t *testing.T) {
	behind := []byte{0, 255, 128}
	for _, n := range numbers() {
		if g, e := num.Get(num.Put(n)); g != n || e != api.OK {
			t.Errorf("Get(Put(%d)) = %d, %d", n, g, e)
		}
		z := num.Zig(n)
		if g, size, e := num.Zag(append(bytes.Clone(z), behind...)); g != n || size != len(z) || e != api.OK {
			t.Errorf("Zag(Zig(%d)) = %d, %d, %d", n, g, size, e)
		}
		if n < 0 {
			continue
		}
		s, _ := num.Short(n)
		if g, size, e := num.Long(append(bytes.Clone(s), behind...)); g != n || size != len(s) || e != api.OK {
			t.Errorf("Long(Short(%d)) = %d, %d, %d", n, g, size, e)
		}
	}
}

func TestWhatIsReadHasJustTheseBytes(t *testing.T) {
	for _, b := range chains() {
		if n, size, e := num.Long(b); e == api.OK {
			if s, f := num.Short(n); f != api.OK || !bytes.Equal(s, b[:size]) {
				t.Fatalf("Long(%v) = %d, whose short bytes are %v", b, n, s)
			}
		}
		if n, size, e := num.Zag(b); e == api.OK && !bytes.Equal(num.Zig(n), b[:size]) {
			t.Fatalf("Zag(%v) = %d, whose turned bytes are %v", b, n, num.Zig(n))
		}
		if n, e := num.Get(b); e == api.OK && !bytes.Equal(num.Put(n), b) {
			t.Fatalf("Get(%v) = %d, whose bytes are %v", b, n, num.Put(n))
		}
	}
}

// Rule 5, and the language's rule 7.

func TestArgumentsStayAndAnswersAreNew(t *testing.T) {
	for _, b := range chains() {
		was := bytes.Clone(b)
		num.Get(b)
		num.Long(b)
		num.Zag(b)
		if !bytes.Equal(b, was) {
			t.Fatalf("%v became %v", was, b)
		}
	}
	short := func(n int) []byte {
		b, _ := num.Short(n)
		return b
	}
	for _, made := range []func(int) []byte{num.Put, short, num.Zig} {
		one, other := made(77), made(77)
		one[0]++
		if bytes.Equal(one, other) {
			t.Error("two answers share their memory")
		}
	}
}
