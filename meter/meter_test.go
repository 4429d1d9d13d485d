package meter_test

import (
	"math"
	"math/big"
	"slices"
	"sync"
	"testing"

	"tompion/api"
	"tompion/meter"
)

const (
	least = math.MinInt
	most  = math.MaxInt
	steps = 50000 // of each one of several at once: enough that they meet
	hands = 8     // how many count at once
)

// kinds are all that there are.
func kinds() []int {
	return []int{api.MeterRead, api.MeterWrite, api.MeterFlush, api.MeterTick, api.MeterHit, api.MeterMake}
}

// noKinds are the neighbours of the kinds, and such as would be taken for one if a number lost some bits or its sign.
func noKinds() []int {
	l := []int{0, -1, -2, -6, -7, 7, 8, 12, 255, least, least + 1, most, most - 1}
	for k := 3; k < 63; k++ {
		for _, kind := range kinds() {
			l = append(l, 1<<k+kind, -(1<<k)+kind)
		}
	}
	for _, kind := range kinds() {
		l = append(l, least+kind)
	}
	return l
}

// numbers are those about nought, and where bits change, and the ends.
func numbers() []int {
	l := []int{0, 1, -1, 2, -2, 3, 4, 7, 1000, -1000, least, least + 1, most, most - 1}
	for k := 7; k < 63; k += 8 {
		l = append(l, 1<<k, 1<<k-1, -(1 << k), -(1<<k)-1)
	}
	return l
}

// wantedSum is a sum modulo 2^64, between the least number and the greatest, with numbers of any size.
func wantedSum(a, b int) int {
	round := new(big.Int).Lsh(big.NewInt(1), 64)
	sum := new(big.Int).Add(big.NewInt(int64(a)), big.NewInt(int64(b)))
	switch {
	case sum.Cmp(big.NewInt(most)) > 0:
		sum.Sub(sum, round)
	case sum.Cmp(big.NewInt(least)) < 0:
		sum.Add(sum, round)
	}
	return int(sum.Int64())
}

// begun are meters in every way that one may begin.
func begun() []*meter.Meter {
	var plain meter.Meter
	return []*meter.Meter{meter.New(), &plain, {}, new(meter.Meter)}
}

// mustHave holds all counts of a meter, told both ways.
func mustHave(t *testing.T, m *meter.Meter, want []int) {
	t.Helper()
	if all := m.All(); !slices.Equal(all, want) {
		t.Fatalf("All() = %v, not %v", all, want)
	}
	for at, n := range want {
		if got := m.Count(at + 1); got != n {
			t.Fatalf("Count(%d) = %d, not %d", at+1, got, n)
		}
	}
}

// full is a meter whose counts are all others.
func full(t *testing.T) (*meter.Meter, []int) {
	t.Helper()
	m, want := meter.New(), []int{11, -22, 33, 44, -55, 66}
	for at, n := range want {
		if !m.Add(at+1, n) {
			t.Fatalf("Add(%d, %d) is false", at+1, n)
		}
	}
	return m, want
}

// together lets several do their part at once, and waits for all.
func together(many int, part func(hand int)) {
	var all sync.WaitGroup
	start := make(chan bool)
	for hand := range many {
		all.Add(1)
		go func() {
			defer all.Done()
			<-start
			part(hand)
		}()
	}
	close(start)
	all.Wait()
}

// P5.1: each kind by itself

func TestKindsAreOneToMeters(t *testing.T) {
	if !slices.Equal(kinds(), []int{1, 2, 3, 4, 5, 6}) || api.Meters != 6 {
		t.Fatal(kinds(), api.Meters)
	}
}

func TestExample(t *testing.T) {
	for _, kind := range kinds() {
		m := meter.New()
		if !m.Add(kind, 3) || !m.Add(kind, 4) || m.Count(kind) != 7 {
			t.Errorf("3 and 4 of kind %d: %d", kind, m.Count(kind))
		}
	}
}

func TestAllAreNoughtAtFirst(t *testing.T) {
	for _, m := range begun() {
		mustHave(t, m, make([]int, 6))
		for _, kind := range kinds() {
			if n := m.Take(kind); n != 0 {
				t.Errorf("Take(%d) of a new one = %d", kind, n)
			}
		}
		mustHave(t, m, make([]int, 6))
	}
}

func TestEachKindIsCountedByItself(t *testing.T) {
	for _, kind := range kinds() {
		for _, m := range begun() {
			want := make([]int, 6)
			want[kind-1] = 5
			if !m.Add(kind, 5) {
				t.Fatalf("Add(%d, 5) is false", kind)
			}
			mustHave(t, m, want)
			want[kind-1] = 9
			if !m.Raise(kind, 9) {
				t.Fatalf("Raise(%d, 9) is false", kind)
			}
			mustHave(t, m, want)
		}
		m, want := full(t)
		if n := m.Take(kind); n != want[kind-1] {
			t.Fatalf("Take(%d) = %d, not %d", kind, n, want[kind-1])
		}
		want[kind-1] = 0
		mustHave(t, m, want)
	}
}

func TestMetersShareNothing(t *testing.T) {
	all := append(begun(), begun()...)
	for at, m := range all {
		for _, kind := range kinds() {
			m.Add(kind, (at+1)*kind)
		}
	}
	for at, m := range all {
		n := at + 1
		mustHave(t, m, []int{n, 2 * n, 3 * n, 4 * n, 5 * n, 6 * n})
	}
}

func TestAnAnswerIsNewMemory(t *testing.T) {
	m, want := full(t)
	first := m.All()
	clear(first)
	mustHave(t, m, want)
	second := m.All()
	m.Add(api.MeterRead, 1)
	m.Take(api.MeterMake)
	if !slices.Equal(second, want) {
		t.Fatalf("what All told is %v later, not %v", second, want)
	}
}

// P5.1: the edges

func TestNoSuchKind(t *testing.T) {
	for _, kind := range noKinds() {
		m, want := full(t)
		for _, n := range []int{0, 1, -1, 1000, least, most} {
			if m.Add(kind, n) {
				t.Errorf("Add(%d, %d) is true", kind, n)
			}
			if m.Raise(kind, n) {
				t.Errorf("Raise(%d, %d) is true", kind, n)
			}
		}
		if n := m.Count(kind); n != 0 {
			t.Errorf("Count(%d) = %d", kind, n)
		}
		if n := m.Take(kind); n != 0 {
			t.Errorf("Take(%d) = %d", kind, n)
		}
		mustHave(t, m, want)
	}
}

func TestNil(t *testing.T) {
	var m *meter.Meter
	for _, kind := range append(kinds(), noKinds()...) {
		for _, n := range []int{0, 1, -1, least, most} {
			if m.Add(kind, n) || m.Raise(kind, n) {
				t.Errorf("a meter that is nil counts %d of kind %d", n, kind)
			}
		}
		if m.Count(kind) != 0 || m.Take(kind) != 0 {
			t.Errorf("a meter that is nil has some of kind %d", kind)
		}
	}
	if all := m.All(); len(all) != 0 {
		t.Errorf("a meter that is nil has %v", all)
	}
}

func TestAddGoesRound(t *testing.T) {
	for _, a := range numbers() {
		for _, b := range numbers() {
			for _, kind := range kinds() {
				m, want := full(t)
				m.Take(kind)
				if !m.Add(kind, a) || !m.Add(kind, b) {
					t.Fatalf("Add(%d, %d), Add(%d, %d)", kind, a, kind, b)
				}
				want[kind-1] = wantedSum(a, b)
				mustHave(t, m, want)
			}
		}
	}
	m := meter.New()
	m.Add(api.MeterTick, most)
	m.Add(api.MeterTick, 1)
	if n := m.Count(api.MeterTick); n != least {
		t.Errorf("one more than the greatest number is %d", n)
	}
	m.Add(api.MeterTick, -1)
	if n := m.Count(api.MeterTick); n != most {
		t.Errorf("one less than the least number is %d", n)
	}
}

func TestTakeLeavesNought(t *testing.T) {
	for _, n := range numbers() {
		for _, kind := range kinds() {
			m, want := full(t)
			m.Take(kind)
			m.Add(kind, n)
			if got := m.Take(kind); got != n {
				t.Fatalf("Take(%d) = %d, not %d", kind, got, n)
			}
			want[kind-1] = 0
			mustHave(t, m, want)
			if got := m.Take(kind); got != 0 {
				t.Fatalf("Take(%d) again = %d", kind, got)
			}
			m.Add(kind, 3)
			want[kind-1] = 3
			mustHave(t, m, want)
		}
	}
}

func TestRaise(t *testing.T) {
	for _, old := range numbers() {
		for _, to := range append(numbers(), old, wantedSum(old, 1), wantedSum(old, -1)) {
			for _, kind := range kinds() {
				m, want := full(t)
				m.Take(kind)
				m.Add(kind, old)
				if got := m.Raise(kind, to); got != (old < to) {
					t.Fatalf("Raise(%d, %d) of %d is %v", kind, to, old, got)
				}
				want[kind-1] = max(old, to)
				mustHave(t, m, want)
				if m.Raise(kind, to) {
					t.Fatalf("Raise(%d, %d) of %d is true again", kind, to, old)
				}
				mustHave(t, m, want)
			}
		}
	}
}

// TestLongRuns holds each answer of many calls, one behind the other, against six numbers that are counted with.
func TestLongRuns(t *testing.T) {
	all, none := numbers(), noKinds()
	for _, m := range begun() {
		want := make([]int, 6)
		seed := uint64(5)
		draw := func(below int) int {
			seed = seed*6364136223846793005 + 1442695040888963407
			return int(seed>>33) % below
		}
		for range 20000 {
			kind, is := 1+draw(6), draw(10) > 0
			if !is {
				kind = none[draw(len(none))]
			}
			old, n := 0, all[draw(len(all))]
			if is {
				old = want[kind-1]
			}
			now := old
			switch draw(4) {
			case 0:
				if m.Add(kind, n) != is {
					t.Fatalf("Add(%d, %d) is not %v", kind, n, is)
				}
				now = wantedSum(old, n)
			case 1:
				if got := m.Raise(kind, n); got != (is && old < n) {
					t.Fatalf("Raise(%d, %d) of %d is %v", kind, n, old, got)
				}
				now = max(old, n)
			case 2:
				if got := m.Take(kind); got != old {
					t.Fatalf("Take(%d) = %d, not %d", kind, got, old)
				}
				now = 0
			case 3:
				if got := m.Count(kind); got != old {
					t.Fatalf("Count(%d) = %d, not %d", kind, got, old)
				}
			}
			if is {
				want[kind-1] = now
			}
			mustHave(t, m, want)
		}
	}
}

// P5.1: several at once

func TestSeveralAddAtOnce(t *testing.T) {
	for _, m := range begun() {
		together(hands, func(hand int) {
			for range steps {
				for _, kind := range kinds() {
					m.Add(kind, kind+hand)
				}
			}
		})
		var want []int
		for _, kind := range kinds() {
			want = append(want, steps*(hands*kind+hands*(hands-1)/2))
		}
		mustHave(t, m, want)
	}
}

func TestSeveralGoRoundAtOnce(t *testing.T) {
	m := meter.New()
	m.Add(api.MeterTick, most)
	together(hands, func(int) {
		for range steps {
			m.Add(api.MeterTick, most)
			m.Add(api.MeterTick, 3)
		}
	})
	want := wantedSum(most, 2*hands*steps) // both together are 2^63 + 2, and an even number of 2^63 goes round to nought
	mustHave(t, m, []int{0, 0, 0, want, 0, 0})
}

// TestTakenOnce lets some add and some take: each one that was added is taken once, or is still there.
func TestTakenOnce(t *testing.T) {
	m := meter.New()
	var taken [2 * hands]int
	together(2*hands, func(hand int) {
		for range steps {
			if hand%2 == 0 {
				m.Add(api.MeterHit, 1)
			} else {
				taken[hand] += m.Take(api.MeterHit)
			}
		}
	})
	left := m.Count(api.MeterHit)
	for _, n := range taken {
		left += n
	}
	if left != hands*steps {
		t.Errorf("%d were added, %d were taken or are there", hands*steps, left)
	}
}

// TestOneTakesAll: of those who take one count at once, one gets it.
func TestOneTakesAll(t *testing.T) {
	m := meter.New()
	for range 2000 {
		m.Add(api.MeterMake, 7)
		var taken [hands]int
		together(hands, func(hand int) { taken[hand] = m.Take(api.MeterMake) })
		slices.Sort(taken[:])
		if taken != [hands]int{hands - 1: 7} {
			t.Fatalf("taken of 7: %v", taken)
		}
	}
}

// TestOneRaises: of those who raise one count to one number at once, no two do; some numbers may be passed over, as another one raised to more already.
func TestOneRaises(t *testing.T) {
	m := meter.New()
	var raised [hands][steps + 1]int
	together(hands, func(hand int) {
		for n := 1; n <= steps; n++ {
			if m.Raise(api.MeterFlush, n) {
				raised[hand][n]++
			}
		}
	})
	mustHave(t, m, []int{0, 0, steps, 0, 0, 0})
	for n := 1; n <= steps; n++ {
		sum := 0
		for hand := range hands {
			sum += raised[hand][n]
		}
		if sum > 1 || n == steps && sum != 1 {
			t.Fatalf("raised to %d by %d", n, sum)
		}
	}
}

// TestGreatestStays: of those who raise one count to numbers of their own at once, the greatest stays.
func TestGreatestStays(t *testing.T) {
	m := meter.New()
	together(hands, func(hand int) {
		for n := range steps {
			m.Raise(api.MeterRead, n*hands+hand)
		}
	})
	mustHave(t, m, []int{steps*hands - 1, 0, 0, 0, 0, 0})
}

// TestRaiseIsNotPutOff: one raises to numbers that all sums of the others together don't come to, so each time it does.
func TestRaiseIsNotPutOff(t *testing.T) {
	const far = 1 << 40
	m := meter.New()
	together(hands, func(hand int) {
		for n := range steps {
			if hand > 0 {
				m.Add(api.MeterTick, 1)
			} else if !m.Raise(api.MeterTick, (n+1)*far) {
				t.Errorf("not raised to %d, of %d", (n+1)*far, m.Count(api.MeterTick))
				return
			}
		}
	})
	if n := m.Count(api.MeterTick); n/far != steps {
		t.Errorf("raised to %d, it is %d", steps*far, n)
	}
}

// TestRaiseLosesNoSum: as this count only rises, who raises it to one more than was read makes it one more, or does nothing. So no sum of others is lost, and each that is told was done.
func TestRaiseLosesNoSum(t *testing.T) {
	m := meter.New()
	var done [2 * hands]int
	together(2*hands, func(hand int) {
		for range steps {
			if hand%2 == 0 {
				m.Add(api.MeterWrite, 1)
				done[hand]++
			} else if m.Raise(api.MeterWrite, m.Count(api.MeterWrite)+1) {
				done[hand]++
			}
		}
	})
	want := 0
	for _, n := range done {
		want += n
	}
	mustHave(t, m, []int{0, want, 0, 0, 0, 0})
}

// TestReadsAreWhole: who reads while others count sees whole counts alone, which never fall.
func TestReadsAreWhole(t *testing.T) {
	const both = 1<<32 + 1 // a count of whole ones has equal halves
	m := meter.New()
	together(hands, func(hand int) {
		last := make([]int, 6)
		for range steps {
			if hand%2 == 0 {
				m.Add(1+hand%6, both)
				continue
			}
			all := m.All()
			for at, n := range all {
				again := m.Count(at + 1)
				if n%both != 0 || again%both != 0 || n < last[at] || again < n {
					t.Errorf("kind %d: %d, then %d, then %d", at+1, last[at], n, again)
					return
				}
				last[at] = again
			}
		}
	})
	mustHave(t, m, []int{2 * steps * both, 0, steps * both, 0, steps * both, 0})
}
