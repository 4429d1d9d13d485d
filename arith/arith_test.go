package arith_test

import (
	"math"
	"math/big"
	"testing"

	"tompion/api"
	"tompion/arith"
)

const (
	least = math.MinInt
	most  = math.MaxInt
)

// numbers are small ones, all powers of two and their neighbours on both sides of nought, and some in between.
func numbers() []int {
	l := []int{1000003, -1000003, 3037000500, -3037000500, 1234567890123456789, -1234567890123456789, most / 3, least / 3}
	for n := -12; n <= 12; n++ {
		l = append(l, n)
	}
	for k := 4; k < 64; k++ {
		for d := -1; d <= 1; d++ {
			l = append(l, 1<<k+d, -(1<<k)+d)
		}
	}
	return l
}

// pairs hands on every two numbers.
func pairs(do func(a, b int)) {
	l := numbers()
	for _, a := range l {
		for _, b := range l {
			do(a, b)
		}
	}
}

// round is a number of any size, gone round at 64 bits.
func round(n *big.Int) int {
	all := new(big.Int).Lsh(big.NewInt(1), 64)
	n = new(big.Int).Mod(n, all)
	if n.Bit(63) == 1 {
		n.Sub(n, all)
	}
	return int(n.Int64())
}

// wide is a number, as one of any size.
func wide(n int) *big.Int {
	return big.NewInt(int64(n))
}

// quotient is what the document says a quotient is, with numbers of any size.
func quotient(a, b int) int {
	if b == 0 {
		return 0
	}
	return round(new(big.Int).Quo(wide(a), wide(b)))
}

// remainder is the number less the quotient times the divisor, with numbers of any size.
func remainder(a, b int) int {
	times := new(big.Int).Mul(wide(quotient(a, b)), wide(b))
	return round(times.Sub(wide(a), times))
}

// number is a truth's.
func number(is bool) int {
	if is {
		return 1
	}
	return 0
}

// wanted is what the document says of each op of two numbers.
func wanted() map[int]func(a, b int) int {
	return map[int]func(a, b int) int{
		api.OpAdd: func(a, b int) int { return round(new(big.Int).Add(wide(a), wide(b))) },
		api.OpSub: func(a, b int) int { return round(new(big.Int).Sub(wide(a), wide(b))) },
		api.OpMul: func(a, b int) int { return round(new(big.Int).Mul(wide(a), wide(b))) },
		api.OpDiv: quotient,
		api.OpMod: remainder,
		api.OpEq:  func(a, b int) int { return number(wide(a).Cmp(wide(b)) == 0) },
		api.OpNe:  func(a, b int) int { return number(wide(a).Cmp(wide(b)) != 0) },
		api.OpLt:  func(a, b int) int { return number(wide(a).Cmp(wide(b)) < 0) },
		api.OpLe:  func(a, b int) int { return number(wide(a).Cmp(wide(b)) <= 0) },
		api.OpGt:  func(a, b int) int { return number(wide(a).Cmp(wide(b)) > 0) },
		api.OpGe:  func(a, b int) int { return number(wide(a).Cmp(wide(b)) >= 0) },
		api.OpAnd: func(a, b int) int { return number(wide(a).Sign() != 0 && wide(b).Sign() != 0) },
		api.OpOr:  func(a, b int) int { return number(wide(a).Sign() != 0 || wide(b).Sign() != 0) },
		api.OpXor: func(a, b int) int { return number((wide(a).Sign() != 0) != (wide(b).Sign() != 0)) },
	}
}

// ops are all that there are, the numbers around them, and such as would be taken for one if a number lost some bits.
func ops() []int {
	l := []int{least, least + 1, most, most - 1}
	for op := -300; op <= 300; op++ {
		l = append(l, op)
	}
	for op := api.OpInt; op <= api.CodeKeep; op++ {
		for k := 9; k < 64; k++ {
			l = append(l, op+1<<k, op-1<<k)
		}
	}
	return l
}

// P3.1

func TestSixOfNumbers(t *testing.T) {
	for _, c := range []struct {
		name       string
		of         func(a, b int) int
		a, b, want int
	}{
		{"Add", arith.Add, 2, 3, 5},
		{"Add", arith.Add, most, 1, least},
		{"Add", arith.Add, least, -1, most},
		{"Add", arith.Add, least, least, 0},
		{"Sub", arith.Sub, 2, 3, -1},
		{"Sub", arith.Sub, least, 1, most},
		{"Sub", arith.Sub, 0, least, least},
		{"Sub", arith.Sub, most, -1, least},
		{"Mul", arith.Mul, -4, 3, -12},
		{"Mul", arith.Mul, most, 2, -2},
		{"Mul", arith.Mul, most, most, 1},
		{"Mul", arith.Mul, least, -1, least},
		{"Mul", arith.Mul, 1 << 32, 1 << 32, 0},
		{"Div", arith.Div, 7, 2, 3},
		{"Div", arith.Div, -7, 2, -3},
		{"Div", arith.Div, 7, -2, -3},
		{"Div", arith.Div, -7, -2, 3},
		{"Div", arith.Div, 5, 0, 0},
		{"Div", arith.Div, 7, 0, 0},
		{"Div", arith.Div, 0, 0, 0},
		{"Div", arith.Div, least, 0, 0},
		{"Div", arith.Div, least, -1, least},
		{"Div", arith.Div, least, 1, least},
		{"Div", arith.Div, least, least, 1},
		{"Div", arith.Div, most, least, 0},
		{"Mod", arith.Mod, 7, 2, 1},
		{"Mod", arith.Mod, -7, 2, -1},
		{"Mod", arith.Mod, 7, -2, 1},
		{"Mod", arith.Mod, -7, -2, -1},
		{"Mod", arith.Mod, 5, 0, 5},
		{"Mod", arith.Mod, 7, 0, 7},
		{"Mod", arith.Mod, -9, 0, -9},
		{"Mod", arith.Mod, least, 0, least},
		{"Mod", arith.Mod, least, -1, 0},
		{"Mod", arith.Mod, most, least, most},
		{"Mod", arith.Mod, least, most, -1},
	} {
		if got := c.of(c.a, c.b); got != c.want {
			t.Errorf("%s of %d and %d: %d, not %d", c.name, c.a, c.b, got, c.want)
		}
	}
	for _, c := range [][2]int{{0, 0}, {1, -1}, {-5, 5}, {most, least + 1}, {least, least}, {least + 1, most}} {
		if got := arith.Neg(c[0]); got != c[1] {
			t.Errorf("Neg of %d: %d, not %d", c[0], got, c[1])
		}
	}
}

func TestNumbersGoRoundAtSixtyFourBits(t *testing.T) {
	want := wanted()
	of := map[int]func(a, b int) int{
		api.OpAdd: arith.Add, api.OpSub: arith.Sub, api.OpMul: arith.Mul, api.OpDiv: arith.Div, api.OpMod: arith.Mod,
	}
	pairs(func(a, b int) {
		for op, f := range of {
			if got, w := f(a, b), want[op](a, b); got != w {
				t.Fatalf("op %d of %d and %d: %d, not %d", op, a, b, got, w)
			}
		}
	})
	for _, a := range numbers() {
		if got, w := arith.Neg(a), round(new(big.Int).Neg(wide(a))); got != w {
			t.Errorf("Neg of %d: %d, not %d", a, got, w)
		}
	}
}

func TestFlag(t *testing.T) {
	if yes, no := arith.Flag(true), arith.Flag(false); yes != 1 || no != 0 {
		t.Errorf("flags %d and %d", yes, no)
	}
}

func TestOneOfEveryNumber(t *testing.T) {
	for _, a := range numbers() {
		if got, ok := arith.One(api.OpNeg, a); !ok || got != round(new(big.Int).Neg(wide(a))) {
			t.Errorf("OpNeg of %d: %d, %t", a, got, ok)
		}
		if got, ok := arith.One(api.OpNot, a); !ok || got != number(a == 0) {
			t.Errorf("OpNot of %d: %d, %t", a, got, ok)
		}
	}
}

func TestOneOfNoOp(t *testing.T) {
	for _, op := range ops() {
		if op == api.OpNeg || op == api.OpNot {
			continue
		}
		for _, a := range []int{0, 1, -1, 7, least, most} {
			if got, ok := arith.One(op, a); got != 0 || ok {
				t.Errorf("op %d of %d: %d, %t", op, a, got, ok)
			}
		}
	}
}

func TestDoOfTruthsThatAreNoFlags(t *testing.T) {
	for _, c := range []struct{ op, a, b, want int }{
		{api.OpAnd, 0, 0, 0}, {api.OpAnd, 0, 1, 0}, {api.OpAnd, 1, 0, 0}, {api.OpAnd, 1, 1, 1},
		{api.OpAnd, 1, 2, 1}, {api.OpAnd, -1, 6, 1}, {api.OpAnd, 3, 0, 0}, {api.OpAnd, least, most, 1},
		{api.OpOr, 0, 0, 0}, {api.OpOr, 0, 1, 1}, {api.OpOr, 1, 0, 1}, {api.OpOr, 1, 1, 1},
		{api.OpOr, 0, 5, 1}, {api.OpOr, 2, 4, 1}, {api.OpOr, -1, 0, 1}, {api.OpOr, least, 0, 1},
		{api.OpXor, 0, 0, 0}, {api.OpXor, 0, 1, 1}, {api.OpXor, 1, 0, 1}, {api.OpXor, 1, 1, 0},
		{api.OpXor, 1, 2, 0}, {api.OpXor, 0, 4, 1}, {api.OpXor, -1, 0, 1}, {api.OpXor, least, most, 0},
	} {
		if got, ok := arith.Do(c.op, c.a, c.b); got != c.want || !ok {
			t.Errorf("op %d of %d and %d: %d, %t, not %d", c.op, c.a, c.b, got, ok, c.want)
		}
	}
}

func TestDoOfEveryTwoNumbers(t *testing.T) {
	want := wanted()
	pairs(func(a, b int) {
		for op, f := range want {
			if got, ok := arith.Do(op, a, b); got != f(a, b) || !ok {
				t.Fatalf("op %d of %d and %d: %d, %t, not %d", op, a, b, got, ok, f(a, b))
			}
		}
	})
}

func TestDoOfNoOp(t *testing.T) {
	known := wanted()
	for _, op := range ops() {
		if known[op] != nil {
			continue
		}
		for _, a := range []int{0, 1, -1, 7, least, most} {
			if got, ok := arith.Do(op, a, 3); got != 0 || ok {
				t.Errorf("op %d of %d and 3: %d, %t", op, a, got, ok)
			}
			if got, ok := arith.Do(op, a, a); got != 0 || ok {
				t.Errorf("op %d of %d twice: %d, %t", op, a, got, ok)
			}
		}
	}
}

// P3.2

func TestSign(t *testing.T) {
	type sign struct {
		in, out int
		ok      bool
	}
	numeric, either, compared, logical := sign{api.Int, api.Int, true}, sign{0, api.Bool, true}, sign{api.Int, api.Bool, true}, sign{api.Bool, api.Bool, true}
	known := map[int]sign{
		api.OpNeg: numeric, api.OpAdd: numeric, api.OpSub: numeric, api.OpMul: numeric, api.OpDiv: numeric, api.OpMod: numeric,
		api.OpEq: either, api.OpNe: either,
		api.OpLt: compared, api.OpLe: compared, api.OpGt: compared, api.OpGe: compared,
		api.OpNot: logical, api.OpAnd: logical, api.OpOr: logical, api.OpXor: logical,
	}
	for _, op := range ops() {
		in, out, ok := arith.Sign(op)
		if got := (sign{in, out, ok}); got != known[op] {
			t.Errorf("op %d: %v, not %v", op, got, known[op])
		}
	}
}

// P3.2 and P3.1: just the ops that have types are done, and what comes out of those whose type is Bool is a flag.
func TestSignIsOfWhatIsDone(t *testing.T) {
	for _, op := range ops() {
		_, out, ok := arith.Sign(op)
		_, one := arith.One(op, 7)
		_, two := arith.Do(op, 7, 5)
		if ok != (one || two) || one && two {
			t.Fatalf("op %d has types: %t; it is done with one: %t, with two: %t", op, ok, one, two)
		}
		if out != api.Bool {
			continue
		}
		for _, a := range []int{0, 1, -1, 2, least, most} {
			for _, b := range []int{0, 1, -1, 2, least, most} {
				x, _ := arith.Do(op, a, b)
				y, _ := arith.One(op, a)
				if x>>1 != 0 || y>>1 != 0 {
					t.Errorf("op %d of %d and %d is no flag: %d, %d", op, a, b, x, y)
				}
			}
		}
	}
}

// P3.3

func TestQuotientAndRemainderMakeUpTheNumber(t *testing.T) {
	pairs(func(a, b int) {
		q, r := arith.Div(a, b), arith.Mod(a, b)
		if sum := arith.Add(arith.Mul(q, b), r); sum != a {
			t.Fatalf("%d by %d: %d and %d make up %d", a, b, q, r, sum)
		}
		x, _ := arith.Do(api.OpDiv, a, b)
		y, _ := arith.Do(api.OpMod, a, b)
		if x != q || y != r {
			t.Fatalf("%d by %d: %d and %d, but as ops %d and %d", a, b, q, r, x, y)
		}
	})
}

func TestRemainderIsNearAndOnTheNumbersSide(t *testing.T) {
	pairs(func(a, b int) {
		r := arith.Mod(a, b)
		if b != 0 && wide(r).CmpAbs(wide(b)) >= 0 {
			t.Fatalf("%d by %d leaves %d: not nearer to nought than the divisor", a, b, r)
		}
		if r != 0 && (r < 0) != (a < 0) {
			t.Fatalf("%d by %d leaves %d: on the other side of nought", a, b, r)
		}
	})
}
