package row_test

import (
	"bytes"
	"math"
	"math/big"
	"slices"
	"testing"

	"tompion/api"
	"tompion/row"
)

const (
	least = math.MinInt
	most  = math.MaxInt
)

// lists are all that have so many of some values.
func lists[T any](many int, of []T) [][]T {
	all := [][]T{{}}
	for range many {
		var longer [][]T
		for _, l := range all {
			for _, x := range of {
				longer = append(longer, append(slices.Clone(l), x))
			}
		}
		all = longer
	}
	return all
}

// rightTypes are all types that may be.
func rightTypes() [][]int {
	var all [][]int
	for many := 1; many <= api.MaxPorts; many++ {
		all = append(all, lists(many, []int{api.Int, api.Bool})...)
	}
	return all
}

// noTypes are numbers of no type: the neighbours, and such as would be taken for one if a number lost some bits.
func noTypes() []int {
	l := []int{0, -1, -2, 3, 4, 255, least, least + 1, most, most - 1}
	for k := 8; k < 64; k += 8 {
		l = append(l, api.Int+1<<k, api.Bool+1<<k)
	}
	return l
}

// wrongTypes are none, too many, and such as have one at some place that is none.
func wrongTypes() [][]int {
	all := [][]int{nil, {}}
	for many := api.MaxPorts + 1; many <= api.MaxPorts+3; many++ {
		all = append(all, lists(many, []int{api.Int, api.Bool})...)
	}
	all = append(all, slices.Repeat([]int{api.Int}, 1000))
	for many := 1; many <= api.MaxPorts; many++ {
		for at := range many {
			for _, none := range noTypes() {
				for _, kind := range []int{api.Int, api.Bool} {
					types := slices.Repeat([]int{kind}, many)
					types[at] = none
					all = append(all, types)
				}
			}
		}
	}
	return all
}

// numbers are those where a length or a sign changes.
func numbers() []int {
	l := []int{0, 1, -1, 2, 300, -300, 1234567890123456789, least, least + 1, most, most - 1}
	for k := 6; k < 63; k += 7 {
		for d := -1; d <= 1; d++ {
			l = append(l, 1<<k+d, -(1<<k)+d)
		}
	}
	return l
}

// rowOf is a row that fits types; its values hang on a number alone.
func rowOf(types []int, seed int) []int {
	all := numbers()
	var l []int
	for at, kind := range types {
		n := seed*(2*at+1) + at
		if kind == api.Bool {
			l = append(l, n%2)
		} else {
			l = append(l, all[n%len(all)])
		}
	}
	return l
}

// wantedBytes are a row's bytes by the document's words, with numbers of any size.
func wantedBytes(types, l []int) []byte {
	var b []byte
	for at, n := range l {
		if types[at] == api.Bool {
			b = append(b, byte(n))
			continue
		}
		turned := new(big.Int).Mul(big.NewInt(int64(n)), big.NewInt(2))
		if n < 0 {
			turned.Neg(turned).Sub(turned, big.NewInt(1))
		}
		digit := new(big.Int)
		for turned.Cmp(big.NewInt(128)) >= 0 {
			turned.DivMod(turned, big.NewInt(128), digit)
			b = append(b, byte(digit.Int64())+128)
		}
		b = append(b, byte(turned.Int64()))
	}
	return b
}

// wantedInt reads an Int by the document's words, with numbers of any size.
func wantedInt(b []byte) (n, size int, e api.Errno) {
	last := 0
	for last < len(b) && last < 10 && b[last] >= 128 {
		last++
	}
	switch {
	case last == len(b) && last < 10:
		return 0, 0, api.ErrEnd
	case last == 10, last > 0 && b[last] == 0, last == 9 && b[last] > 1:
		return 0, 0, api.ErrForm
	}
	turned, half := new(big.Int), new(big.Int)
	for at := last; at >= 0; at-- {
		turned.Mul(turned, big.NewInt(128))
		turned.Add(turned, big.NewInt(int64(b[at]%128)))
	}
	half.Rsh(turned, 1)
	if turned.Bit(0) == 1 {
		half.Add(half, big.NewInt(1)).Neg(half)
	}
	return int(half.Int64()), last + 1, api.OK
}

// wantedRow reads a row of types that may be by the document's words.
func wantedRow(types []int, b []byte) ([]int, api.Errno) {
	var l []int
	for _, kind := range types {
		if kind == api.Int {
			n, size, e := wantedInt(b)
			if e != api.OK {
				return nil, e
			}
			l, b = append(l, n), b[size:]
			continue
		}
		if len(b) == 0 {
			return nil, api.ErrEnd
		}
		if b[0] > 1 {
			return nil, api.ErrForm
		}
		l, b = append(l, int(b[0])), b[1:]
	}
	if len(b) > 0 {
		return nil, api.ErrExtra
	}
	return l, api.OK
}

// mustRead holds what is read of bytes against the document's words, and of what is read that it has just these bytes.
func mustRead(t *testing.T, types []int, b []byte) {
	t.Helper()
	want, wantE := wantedRow(types, b)
	l, e := row.Read(types, b)
	if e != wantE || !slices.Equal(l, want) {
		t.Fatalf("Read(%v, %v) = %v, %d, not %v, %d", types, b, l, e, want, wantE)
	}
	if e != api.OK {
		return
	}
	if !row.Fits(types, l) {
		t.Fatalf("Read(%v, %v) = %v, which doesn't fit", types, b, l)
	}
	if back, e := row.Write(types, l); e != api.OK || !bytes.Equal(back, b) {
		t.Fatalf("Write(%v, %v) = %v, %d, but it was read of %v", types, l, back, e, b)
	}
}

// P4.1

func TestTypesMayBe(t *testing.T) {
	for _, types := range rightTypes() {
		if !row.Right(types) {
			t.Errorf("Right(%v) is false", types)
		}
	}
	for _, types := range wrongTypes() {
		if row.Right(types) {
			t.Errorf("Right(%v) is true", types)
		}
	}
}

func TestSizeIsTenAnIntAndOneABool(t *testing.T) {
	for _, c := range []struct {
		types []int
		want  int
	}{
		{[]int{api.Int}, 10},
		{[]int{api.Bool}, 1},
		{[]int{api.Int, api.Bool}, 11},
		{slices.Repeat([]int{api.Int}, api.MaxPorts), 80},
		{slices.Repeat([]int{api.Bool}, api.MaxPorts), 8},
		{slices.Repeat([]int{api.Bool}, api.MaxPorts+1), 0},
		{nil, 0},
	} {
		if size := row.Size(c.types); size != c.want {
			t.Errorf("Size(%v) = %d, not %d", c.types, size, c.want)
		}
	}
	for _, types := range wrongTypes() {
		if size := row.Size(types); size != 0 {
			t.Errorf("Size(%v) = %d, but these types may not be", types, size)
		}
	}
}

func TestSizeIsThatOfTheLongestRow(t *testing.T) {
	for _, types := range rightTypes() {
		longest := make([]int, len(types))
		for at, kind := range types {
			if kind == api.Int {
				longest[at] = least
			} else {
				longest[at] = 1
			}
		}
		if b, e := row.Write(types, longest); e != api.OK || len(b) != row.Size(types) {
			t.Errorf("Write(%v, %v) has %d bytes, %d, but Size says %d", types, longest, len(b), e, row.Size(types))
		}
	}
}

func TestBytesOfARow(t *testing.T) {
	both := []int{api.Int, api.Bool}
	for _, c := range []struct {
		types, row []int
		want       []byte
	}{
		{both, []int{-1, 1}, []byte{1, 1}},
		{both, []int{1, 0}, []byte{2, 0}},
		{both, []int{300, 1}, []byte{0xd8, 4, 1}},
		{[]int{api.Bool, api.Int}, []int{1, -1}, []byte{1, 1}},
		{[]int{api.Bool, api.Int}, []int{0, 64}, []byte{0, 128, 1}},
		{[]int{api.Int}, []int{0}, []byte{0}},
		{[]int{api.Int}, []int{most}, []byte{254, 255, 255, 255, 255, 255, 255, 255, 255, 1}},
		{[]int{api.Int}, []int{least}, []byte{255, 255, 255, 255, 255, 255, 255, 255, 255, 1}},
		{[]int{api.Bool, api.Bool, api.Bool}, []int{0, 1, 1}, []byte{0, 1, 1}},
	} {
		if b, e := row.Write(c.types, c.row); e != api.OK || !bytes.Equal(b, c.want) {
			t.Errorf("Write(%v, %v) = %v, %d, not %v", c.types, c.row, b, e, c.want)
		}
	}
	for _, types := range rightTypes() {
		for seed := range 60 {
			l := rowOf(types, seed)
			if !row.Fits(types, l) {
				t.Errorf("Fits(%v, %v) is false", types, l)
			}
			if b, e := row.Write(types, l); e != api.OK || !bytes.Equal(b, wantedBytes(types, l)) {
				t.Errorf("Write(%v, %v) = %v, %d, not %v", types, l, b, e, wantedBytes(types, l))
			}
		}
	}
}

// mustNotFit holds that a row doesn't fit types that may be, and isn't written.
func mustNotFit(t *testing.T, types, l []int) {
	t.Helper()
	if row.Fits(types, l) {
		t.Errorf("Fits(%v, %v) is true", types, l)
	}
	if b, e := row.Write(types, l); e != api.ErrRow || len(b) != 0 {
		t.Errorf("Write(%v, %v) = %v, %d, not ErrRow", types, l, b, e)
	}
}

func TestRowTooLongOrTooShort(t *testing.T) {
	for _, types := range rightTypes() {
		mustNotFit(t, types, nil)
		for many := range api.MaxPorts + 3 {
			if many != len(types) {
				mustNotFit(t, types, make([]int, many))
			}
		}
		mustNotFit(t, types, make([]int, len(types)+256))
	}
}

func TestBoolIsNoughtOrOne(t *testing.T) {
	wrong := []int{-1, -2, 2, 3, 10, 127, 128, 255, 256, 257, 1 << 16, 1<<16 + 1, 1 << 32, 1<<32 + 1, least, least + 1, most}
	for _, types := range rightTypes() {
		for at, kind := range types {
			for _, n := range wrong {
				l := make([]int, len(types))
				l[at] = n
				if kind == api.Bool {
					mustNotFit(t, types, l)
				} else if !row.Fits(types, l) {
					t.Errorf("Fits(%v, %v) is false", types, l)
				}
			}
		}
	}
}

func TestTypesThatMayNotBeComeFirst(t *testing.T) {
	for _, types := range wrongTypes() {
		for _, l := range [][]int{nil, make([]int, len(types)), slices.Repeat([]int{2}, len(types)), make([]int, len(types)+1)} {
			if row.Fits(types, l) {
				t.Errorf("Fits(%v, %v) is true", types, l)
			}
			if b, e := row.Write(types, l); e != api.ErrArg || len(b) != 0 {
				t.Errorf("Write(%v, %v) = %v, %d, not ErrArg", types, l, b, e)
			}
		}
	}
}

// P4.2

func TestReadTellsWhatIsWrong(t *testing.T) {
	both, turned := []int{api.Int, api.Bool}, []int{api.Bool, api.Int}
	full := bytes.Repeat([]byte{255}, 12)
	for _, c := range []struct {
		types []int
		b     []byte
		want  []int
		e     api.Errno
	}{
		{both, []byte{1, 1}, []int{-1, 1}, api.OK},
		{both, nil, nil, api.ErrEnd},
		{both, []byte{1}, nil, api.ErrEnd},
		{both, []byte{128}, nil, api.ErrEnd},
		{both, []byte{1, 2}, nil, api.ErrForm},
		{both, []byte{1, 255}, nil, api.ErrForm},
		{both, []byte{128, 0}, nil, api.ErrForm},
		{both, []byte{1, 1, 0}, nil, api.ErrExtra},
		{both, []byte{1, 2, 0}, nil, api.ErrForm},
		{both, append(full[:9:9], 1, 1), []int{least, 1}, api.OK},
		{both, append(full[:9:9], 2, 1), nil, api.ErrForm},
		{both, append(full[:9:9], 0, 1), nil, api.ErrForm},
		{both, full[:9], nil, api.ErrEnd},
		{both, full[:10], nil, api.ErrForm},
		{both, full, nil, api.ErrForm},
		{turned, []byte{2}, nil, api.ErrForm},
		{turned, []byte{2, 128}, nil, api.ErrForm},
		{turned, []byte{1}, nil, api.ErrEnd},
		{turned, []byte{0, 128}, nil, api.ErrEnd},
		{turned, []byte{0, 128, 1}, []int{0, 64}, api.OK},
		{turned, []byte{0, 128, 1, 2}, nil, api.ErrExtra},
		{[]int{api.Bool}, []byte{}, nil, api.ErrEnd},
		{[]int{api.Bool}, []byte{0, 0}, nil, api.ErrExtra},
	} {
		if l, e := row.Read(c.types, c.b); e != c.e || !slices.Equal(l, c.want) {
			t.Errorf("Read(%v, %v) = %v, %d, not %v, %d", c.types, c.b, l, e, c.want, c.e)
		}
	}
	for _, types := range wrongTypes() {
		for _, b := range [][]byte{nil, {0}, {2}, {128, 0}, make([]byte, len(types)), make([]byte, len(types)+1)} {
			if l, e := row.Read(types, b); e != api.ErrArg || len(l) != 0 {
				t.Errorf("Read(%v, %v) = %v, %d, not ErrArg", types, b, l, e)
			}
		}
	}
}

func TestReadOfAllShortBytes(t *testing.T) {
	var all [][]byte
	for many := range 6 {
		all = append(all, lists(many, []byte{0, 1, 2, 127, 128, 255})...)
	}
	for a := range 256 {
		for b := range 256 {
			all = append(all, []byte{byte(a), byte(b)})
		}
	}
	for _, types := range rightTypes() {
		if len(types) > 3 {
			break
		}
		for _, b := range all {
			mustRead(t, types, b)
		}
	}
}

func TestReadOfRowsThatWereHarmed(t *testing.T) {
	for _, types := range rightTypes() {
		for seed := range 12 {
			b := wantedBytes(types, rowOf(types, seed*7))
			for size := range b {
				mustRead(t, types, b[:size:size])
			}
			for at := range b {
				for _, x := range []byte{0, 1, 2, 127, 128, 255, b[at] ^ 1, b[at] ^ 128} {
					harmed := bytes.Clone(b)
					harmed[at] = x
					mustRead(t, types, harmed)
				}
			}
			for _, x := range []byte{0, 1, 128, 255} {
				mustRead(t, types, append(bytes.Clone(b), x))
			}
		}
	}
}

// P4.3

func TestWhatIsWrittenIsRead(t *testing.T) {
	for _, types := range rightTypes() {
		for seed := range 60 {
			l := rowOf(types, seed)
			b, e := row.Write(types, l)
			if e != api.OK {
				t.Fatalf("Write(%v, %v): %d", types, l, e)
			}
			if back, e := row.Read(types, b); e != api.OK || !slices.Equal(back, l) {
				t.Fatalf("Read(%v, %v) = %v, %d, but %v was written", types, b, back, e, l)
			}
		}
	}
	for _, n := range numbers() {
		b, _ := row.Write([]int{api.Int}, []int{n})
		if l, e := row.Read([]int{api.Int}, b); e != api.OK || !slices.Equal(l, []int{n}) {
			t.Errorf("Read of %v = %v, %d, but %d was written", b, l, e, n)
		}
	}
}

func TestNothingIsChangedAndAllIsNew(t *testing.T) {
	types, l := []int{api.Int, api.Bool, api.Int}, []int{-300, 1, 7}
	b, e := row.Write(types, l)
	if e != api.OK {
		t.Fatal(e)
	}
	kept := bytes.Clone(b)
	read, e := row.Read(types, b)
	if e != api.OK {
		t.Fatal(e)
	}
	if !row.Right(types) || !row.Fits(types, l) || row.Size(types) != 21 {
		t.Fatal("a row that fits doesn't")
	}
	if !slices.Equal(types, []int{api.Int, api.Bool, api.Int}) || !slices.Equal(l, []int{-300, 1, 7}) || !bytes.Equal(b, kept) {
		t.Fatal("what was handed in was changed")
	}
	clear(b)
	if !slices.Equal(read, []int{-300, 1, 7}) {
		t.Fatal("a row hangs on the bytes that it was read of")
	}
	clear(read)
	if again, _ := row.Write(types, l); !bytes.Equal(again, kept) {
		t.Fatal("what is written hangs on what was read")
	}
}
