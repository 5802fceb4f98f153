package bits_test

import (
	"math"
	"math/big"
	"slices"
	"strconv"
	"strings"
	"testing"

	"cartulary/bits"
)

// Kinds of the caller's own, one of them made of another own one.
type (
	own8   uint8
	own16  uint16
	own32  uint32
	own64  uint64
	own    uint
	nested own8
)

const greatest = math.MaxUint64

// edges: 0, the powers of two with their neighbours, the greatest number, and some in between, all of so many bits.
func edges(width int) []uint64 {
	top := uint64(greatest) >> (64 - width)
	l := []uint64{0, 5, 11, 13, 200, 0x5555555555555555 & top, 0xAAAAAAAAAAAAAAAA & top, 0x0123456789ABCDEF & top, 0xF0F0F0F0F0F0F0F0 & top, top - 1, top}
	for e := range width {
		p := uint64(1) << e
		l = append(l, p-1, p, (p+1)&top)
	}
	slices.Sort(l)
	return slices.Compact(l)
}

// shifts: below 0, each up to beyond the widest kind, and very far ones.
func shifts() []int {
	l := []int{math.MinInt, math.MinInt + 1, math.MinInt32, -256, -64, -63, -8, -2, -1}
	for n := range 131 {
		l = append(l, n)
	}
	return append(l, 255, 256, 257, 1<<16, 1<<31, 1<<32, 1<<32+1, 1<<40, math.MaxInt-1, math.MaxInt)
}

func large(n uint64) *big.Int { return new(big.Int).SetUint64(n) }

// fitting: a number as one of so many bits; 0 and false, if it is none.
func fitting(n *big.Int, width int) (uint64, bool) {
	if n.BitLen() > width {
		return 0, false
	}
	return n.Uint64(), true
}

func wantOnes(x uint64) int {
	s := strconv.FormatUint(x, 2)
	return len(s) - len(strings.TrimRight(s, "1"))
}

func wantCount(x uint64) int { return strings.Count(strconv.FormatUint(x, 2), "1") }

func wantAdd(a, b uint64, width int) (uint64, bool) {
	return fitting(new(big.Int).Add(large(a), large(b)), width)
}

func wantLeft(x uint64, n, width int) (uint64, bool) {
	switch {
	case n < 0:
		return 0, false
	case x == 0:
		return 0, true
	case n > 64:
		return 0, false
	}
	return fitting(new(big.Int).Lsh(large(x), uint(n)), width)
}

// wantLog: straight from the words: the least e such that 2 to the power of e is not below n.
func wantLog(n uint64) int {
	p := big.NewInt(1)
	e := 0
	for p.Cmp(large(n)) < 0 {
		p.Lsh(p, 1)
		e++
	}
	return e
}

func TestExamplesBelowLog(t *testing.T) {
	for _, c := range []struct {
		n, p uint64
		ok   bool
	}{
		{0, 0, false}, {1, 0, false}, {2, 1, true}, {3, 2, true}, {4, 2, true}, {5, 4, true},
		{9223372036854775808, 4611686018427387904, true},
		{18446744073709551615, 9223372036854775808, true},
	} {
		if p, ok := bits.Below(c.n); p != c.p || ok != c.ok {
			t.Errorf("Below(%d) = %d, %v; want %d, %v", c.n, p, ok, c.p, c.ok)
		}
	}
	for _, c := range []struct {
		n  uint64
		e  int
		ok bool
	}{
		{0, 0, false}, {1, 0, true}, {2, 1, true}, {3, 2, true}, {4, 2, true}, {5, 3, true},
		{18446744073709551615, 64, true},
	} {
		if e, ok := bits.Log(c.n); e != c.e || ok != c.ok {
			t.Errorf("Log(%d) = %d, %v; want %d, %v", c.n, e, ok, c.e, c.ok)
		}
	}
}

func TestExamplesOnesCount(t *testing.T) {
	for _, c := range []struct {
		x    uint8
		ones int
	}{{0, 0}, {1, 1}, {2, 0}, {7, 3}, {11, 2}, {255, 8}} {
		if n := bits.Ones(c.x); n != c.ones {
			t.Errorf("Ones(%d) = %d; want %d", c.x, n, c.ones)
		}
	}
	for _, c := range []struct {
		x     uint8
		count int
	}{{0, 0}, {11, 3}, {255, 8}} {
		if n := bits.Count(c.x); n != c.count {
			t.Errorf("Count(%d) = %d; want %d", c.x, n, c.count)
		}
	}
	if n := bits.Count(uint64(18446744073709551615)); n != 64 {
		t.Errorf("Count of the greatest uint64 = %d; want 64", n)
	}
}

func same[T bits.Unsigned](t *testing.T, call string, got T, ok bool, want T, wantOK bool) {
	t.Helper()
	if got != want || ok != wantOK {
		t.Errorf("%s of %T = %d, %v; want %d, %v", call, got, got, ok, want, wantOK)
	}
}

func TestExamplesAddLeftFit(t *testing.T) {
	a, ok := bits.Add(uint8(200), 55)
	same(t, "Add(200, 55)", a, ok, 255, true)
	a, ok = bits.Add(uint8(200), 56)
	same(t, "Add(200, 56)", a, ok, 0, false)
	b, ok := bits.Add(uint16(200), 56)
	same(t, "Add(200, 56)", b, ok, 256, true)

	for _, c := range []struct {
		x  uint8
		n  int
		y  uint8
		ok bool
	}{{3, 6, 192, true}, {3, 7, 0, false}, {3, 0, 3, true}, {3, -1, 0, false}, {0, 99, 0, true}} {
		y, ok := bits.Left(c.x, c.n)
		same(t, "Left("+strconv.Itoa(int(c.x))+", "+strconv.Itoa(c.n)+")", y, ok, c.y, c.ok)
	}
	d, ok := bits.Left(uint64(1), 63)
	same(t, "Left(1, 63)", d, ok, 9223372036854775808, true)
	d, ok = bits.Left(uint64(1), 64)
	same(t, "Left(1, 64)", d, ok, 0, false)

	f, ok := bits.Fit[uint8](uint16(255))
	same(t, "Fit(255)", f, ok, 255, true)
	f, ok = bits.Fit[uint8](uint16(256))
	same(t, "Fit(256)", f, ok, 0, false)
	g, ok := bits.Fit[uint32](uint64(4294967295))
	same(t, "Fit(4294967295)", g, ok, 4294967295, true)
	g, ok = bits.Fit[uint32](uint64(4294967296))
	same(t, "Fit(4294967296)", g, ok, 0, false)
}

func TestExamplesPowers(t *testing.T) {
	for _, c := range []struct {
		n uint64
		l []uint64
	}{
		{0, nil},
		{13, []uint64{8, 4, 1}},
		{9223372036854775809, []uint64{9223372036854775808, 1}},
	} {
		if l := slices.Collect(bits.Powers(c.n)); !slices.Equal(l, c.l) {
			t.Errorf("Powers(%d) = %v; want %v", c.n, l, c.l)
		}
	}
}

// P1.1, P1.3, P1.4: every call on one kind, against numbers without a bound.
func checkKind[T bits.Unsigned](t *testing.T, width int) {
	t.Helper()
	for _, x := range edges(width) {
		if n, want := bits.Ones(T(x)), wantOnes(x); n != want {
			t.Errorf("Ones of %T %d = %d; want %d", T(0), x, n, want)
		}
		if n, want := bits.Count(T(x)), wantCount(x); n != want {
			t.Errorf("Count of %T %d = %d; want %d", T(0), x, n, want)
		}
		for _, y := range edges(width) {
			checkAdd[T](t, x, y, width)
		}
		top := uint64(greatest) >> (64 - width)
		checkAdd[T](t, x, top-x, width) // the greatest sum that fits
		if x > 0 {
			checkAdd[T](t, x, top-x+1, width) // the least that does not
		}
		for _, n := range shifts() {
			checkLeft[T](t, x, n, width)
		}
	}
}

func checkAdd[T bits.Unsigned](t *testing.T, a, b uint64, width int) {
	t.Helper()
	s, ok := bits.Add(T(a), T(b))
	if want, wantOK := wantAdd(a, b, width); uint64(s) != want || ok != wantOK {
		t.Errorf("Add of %T %d and %d = %d, %v; want %d, %v", T(0), a, b, s, ok, want, wantOK)
	}
}

func checkLeft[T bits.Unsigned](t *testing.T, x uint64, n, width int) {
	t.Helper()
	y, ok := bits.Left(T(x), n)
	if want, wantOK := wantLeft(x, n, width); uint64(y) != want || ok != wantOK {
		t.Errorf("Left of %T %d by %d = %d, %v; want %d, %v", T(0), x, n, y, ok, want, wantOK)
	}
}

func TestKinds(t *testing.T) {
	checkKind[uint8](t, 8)
	checkKind[uint16](t, 16)
	checkKind[uint32](t, 32)
	checkKind[uint64](t, 64)
	checkKind[uint](t, 64)
}

func TestOwnKinds(t *testing.T) {
	checkKind[own8](t, 8)
	checkKind[nested](t, 8)
	checkKind[own16](t, 16)
	checkKind[own32](t, 32)
	checkKind[own64](t, 64)
	checkKind[own](t, 64)
}

// The smallest kind whole: all numbers, all pairs.
func TestAllOfEightBits(t *testing.T) {
	for a := range uint64(256) {
		if n, want := bits.Ones(uint8(a)), wantOnes(a); n != want {
			t.Errorf("Ones(%d) = %d; want %d", a, n, want)
		}
		if n, want := bits.Count(uint8(a)), wantCount(a); n != want {
			t.Errorf("Count(%d) = %d; want %d", a, n, want)
		}
		for b := range uint64(256) {
			checkAdd[uint8](t, a, b, 8)
		}
		for n := -9; n < 20; n++ {
			checkLeft[uint8](t, a, n, 8)
		}
	}
}

// P1.1, P1.4: from each kind into each, the caller's own among them.
func checkFit[B, A bits.Unsigned](t *testing.T, to, from int) {
	t.Helper()
	for _, x := range edges(from) {
		y, ok := bits.Fit[B](A(x))
		if want, wantOK := fitting(large(x), to); uint64(y) != want || ok != wantOK {
			t.Errorf("Fit of %T %d into %T = %d, %v; want %d, %v", A(0), x, B(0), y, ok, want, wantOK)
		}
	}
}

func checkFitFrom[A bits.Unsigned](t *testing.T, from int) {
	t.Helper()
	checkFit[uint8, A](t, 8, from)
	checkFit[uint16, A](t, 16, from)
	checkFit[uint32, A](t, 32, from)
	checkFit[uint64, A](t, 64, from)
	checkFit[uint, A](t, 64, from)
	checkFit[own8, A](t, 8, from)
	checkFit[nested, A](t, 8, from)
	checkFit[own16, A](t, 16, from)
	checkFit[own32, A](t, 32, from)
	checkFit[own64, A](t, 64, from)
	checkFit[own, A](t, 64, from)
}

func TestFitOfAllKinds(t *testing.T) {
	checkFitFrom[uint8](t, 8)
	checkFitFrom[uint16](t, 16)
	checkFitFrom[uint32](t, 32)
	checkFitFrom[uint64](t, 64)
	checkFitFrom[uint](t, 64)
	checkFitFrom[own8](t, 8)
	checkFitFrom[nested](t, 8)
	checkFitFrom[own16](t, 16)
	checkFitFrom[own32](t, 32)
	checkFitFrom[own64](t, 64)
	checkFitFrom[own](t, 64)
}

// numbers: for the calls that take a uint64: all small ones, and the edges.
func numbers() []uint64 {
	l := edges(64)
	for n := range uint64(5000) {
		l = append(l, n)
	}
	return l
}

// P1.2.
func TestBelowLog(t *testing.T) {
	for _, n := range numbers() {
		e, ok := bits.Log(n)
		p, below := bits.Below(n)
		if n == 0 {
			if e != 0 || ok {
				t.Errorf("Log(0) = %d, %v; want 0, false", e, ok)
			}
		} else if want := wantLog(n); e != want || !ok {
			t.Errorf("Log(%d) = %d, %v; want %d, true", n, e, ok, want)
		}
		if n < 2 {
			if p != 0 || below {
				t.Errorf("Below(%d) = %d, %v; want 0, false", n, p, below)
			}
		} else if want := uint64(1) << (wantLog(n) - 1); p != want || !below {
			t.Errorf("Below(%d) = %d, %v; want %d, true", n, p, below, want)
		}
	}
}

// wantPowers: by the bits, from the highest on.
func wantPowers(n uint64) []uint64 {
	var l []uint64
	for e := 63; e >= 0; e-- {
		if p := uint64(1) << e; n&p != 0 {
			l = append(l, p)
		}
	}
	return l
}

// P1.5: and gone over again, from the beginning on.
func TestPowers(t *testing.T) {
	for _, n := range numbers() {
		powers := bits.Powers(n)
		for round := range 3 {
			if l := slices.Collect(powers); !slices.Equal(l, wantPowers(n)) {
				t.Errorf("Powers(%d), round %d = %v; want %v", n, round, l, wantPowers(n))
			}
		}
	}
}

// P1.5: left behind each of its elements; nothing is told behind that, and the next round is whole.
func TestPowersLeftEarly(t *testing.T) {
	for _, n := range []uint64{1, 2, 3, 13, 255, 1 << 63, 1<<63 + 1, greatest - 1, greatest} {
		powers := bits.Powers(n)
		want := wantPowers(n)
		for most := 1; most <= len(want); most++ {
			var l []uint64
			powers(func(p uint64) bool {
				l = append(l, p)
				return len(l) < most
			})
			if !slices.Equal(l, want[:most]) {
				t.Errorf("Powers(%d), left behind %d = %v; want %v", n, most, l, want[:most])
			}
			if l := slices.Collect(powers); !slices.Equal(l, want) {
				t.Errorf("Powers(%d), behind one left early = %v; want %v", n, l, want)
			}
		}
	}
}

// P1.5, R3: within itself, and beside another one; none is nil.
func TestPowersSideBySide(t *testing.T) {
	if bits.Powers(0) == nil {
		t.Fatal("Powers(0) is nil")
	}
	a, b := bits.Powers(13), bits.Powers(6)
	var got []uint64
	for p := range a {
		got = append(got, p)
		for q := range a {
			got = append(got, q)
		}
		for q := range b {
			got = append(got, q)
		}
	}
	want := []uint64{8, 8, 4, 1, 4, 2, 4, 8, 4, 1, 4, 2, 1, 8, 4, 1, 4, 2}
	if !slices.Equal(got, want) {
		t.Errorf("Powers within Powers = %v; want %v", got, want)
	}
}

// P1.6: Below is below, twice that is not, and Log goes with it.
func TestBelowFollows(t *testing.T) {
	for _, n := range numbers() {
		if n < 2 {
			continue
		}
		p, _ := bits.Below(n)
		if p >= n || p < n-p {
			t.Errorf("Below(%d) = %d: not below, or twice that is below too", n, p)
		}
		one, ok := bits.Log(p)
		all, _ := bits.Log(n)
		if !ok || one != all-1 {
			t.Errorf("Log(Below(%d)) = %d, %v; Log(%d) = %d", n, one, ok, n, all)
		}
	}
}

// P1.6: Powers has Count elements, whose sum the number is.
func TestPowersFollow(t *testing.T) {
	for _, n := range numbers() {
		elements, sum := 0, uint64(0)
		for p := range bits.Powers(n) {
			elements++
			sum += p
		}
		if elements != bits.Count(n) || sum != n {
			t.Errorf("Powers(%d): %d elements, sum %d; Count is %d", n, elements, sum, bits.Count(n))
		}
	}
}

// P1.6: a number that is nothing but its Ones is one below a power of two; any other has more ones or noughts above.
func checkOnesFollow[T bits.Unsigned](t *testing.T, width int) {
	t.Helper()
	for _, x := range edges(width) {
		ones := bits.Ones(T(x))
		low := new(big.Int).Lsh(big.NewInt(1), uint(ones))
		low.Sub(low, big.NewInt(1))
		whole := low.Cmp(large(x)) == 0
		if whole != (bits.Count(T(x)) == ones) {
			t.Errorf("Ones of %T %d = %d, Count = %d", T(0), x, ones, bits.Count(T(x)))
		}
		if n, ok := fitting(low, width); !ok || bits.Ones(T(n)) != ones || bits.Count(T(n)) != ones {
			t.Errorf("the lowest %d bits of %T %d are no number of %d ones", ones, T(0), x, ones)
		}
	}
}

// P1.6: Add does not hang on the order; Left by n is n times a number added to itself.
func checkSumsFollow[T bits.Unsigned](t *testing.T, width int) {
	t.Helper()
	for _, x := range edges(width) {
		for _, y := range edges(width) {
			a, one := bits.Add(T(x), T(y))
			b, other := bits.Add(T(y), T(x))
			if a != b || one != other {
				t.Errorf("Add of %T %d and %d hangs on the order", T(0), x, y)
			}
		}
		sum, fits := T(x), true
		for n := range width + 2 {
			if y, ok := bits.Left(T(x), n); y != sum || ok != fits {
				t.Errorf("Left of %T %d by %d = %d, %v; added %d, %v", T(0), x, n, y, ok, sum, fits)
			}
			if fits {
				sum, fits = bits.Add(sum, sum)
			}
		}
	}
}

func TestKindsFollow(t *testing.T) {
	checkOnesFollow[uint8](t, 8)
	checkOnesFollow[uint16](t, 16)
	checkOnesFollow[uint32](t, 32)
	checkOnesFollow[uint64](t, 64)
	checkOnesFollow[uint](t, 64)
	checkOnesFollow[nested](t, 8)
	checkSumsFollow[uint8](t, 8)
	checkSumsFollow[uint16](t, 16)
	checkSumsFollow[uint32](t, 32)
	checkSumsFollow[uint64](t, 64)
	checkSumsFollow[uint](t, 64)
	checkSumsFollow[own16](t, 16)
}
