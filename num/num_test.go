package num

import (
	"math"
	"testing"
)

const (
	nanBits  = 0x7FF8000000000000
	negative = 0x8000000000000000
	bound    = 9007199254740992 // 2^53
)

var (
	infinity = math.Inf(1)
	minus0   = math.Copysign(0, -1)
	nan      = math.NaN()
)

// rising lists floats in the order that the chapter names, NaN left out.
func rising() []float64 {
	return []float64{
		math.Inf(-1), -math.MaxFloat64, -bound - 2, -bound, -2, -1.5, -1, -0x1p-1022, -5e-324, minus0,
		0, 5e-324, 0x1p-1022, 1, 1.5, 2, bound, bound + 2, math.MaxFloat64, math.Inf(1),
	}
}

// oddNaNs lists NaNs that differ by their bits: quiet and not, of both signs.
func oddNaNs() []float64 {
	var all []float64
	for _, bits := range []uint64{
		0x7FF8000000000000, 0x7FF8000000000001, 0x7FF0000000000001, 0x7FFFFFFFFFFFFFFF, 0x7FF4000000000000,
		0xFFF8000000000000, 0xFFF8000000000123, 0xFFF0000000000001, 0xFFFFFFFFFFFFFFFF,
	} {
		all = append(all, math.Float64frombits(bits))
	}
	return all
}

func everyFloat() []float64 { return append(rising(), oddNaNs()...) }

// everyNumber has each pair of floats as its parts.
func everyNumber() []complex128 {
	var all []complex128
	for _, x := range everyFloat() {
		for _, y := range everyFloat() {
			all = append(all, complex(x, y))
		}
	}
	return all
}

// scattered lists numbers of any bits, the same ones in every run.
func scattered(count int) []complex128 {
	state := uint64(1)
	next := func() float64 {
		state += 0x9E3779B97F4A7C15
		z := (state ^ state>>30) * 0xBF58476D1CE4E5B9
		z = (z ^ z>>27) * 0x94D049BB133111EB
		return math.Float64frombits(z ^ z>>31)
	}
	all := make([]complex128, count)
	for i := range all {
		all[i] = complex(next(), next())
	}
	return all
}

// wantBits is what Bits must answer of one part.
func wantBits(x float64) uint64 {
	if x != x {
		return nanBits
	}
	return math.Float64bits(x)
}

// expect holds got against want by bits, not by Same, which is under test.
func expect(t *testing.T, name string, got, want complex128) {
	t.Helper()
	if wantBits(real(got)) != wantBits(real(want)) || wantBits(imag(got)) != wantBits(imag(want)) {
		t.Errorf("%s: %v, not %v", name, got, want)
	}
}

func TestBitsOfOrdinaryNumbers(t *testing.T) {
	for _, c := range []struct {
		z          complex128
		real, imag uint64
	}{
		{0, 0, 0},
		{1 + 2i, 0x3FF0000000000000, 0x4000000000000000},
		{-1.5 - 1i, 0xBFF8000000000000, 0xBFF0000000000000},
		{complex(minus0, 0), negative, 0},
		{complex(0, minus0), 0, negative},
		{complex(infinity, -infinity), 0x7FF0000000000000, 0xFFF0000000000000},
		{complex(5e-324, -5e-324), 1, negative | 1},
		{complex(math.MaxFloat64, 3), 0x7FEFFFFFFFFFFFFF, 0x4008000000000000},
	} {
		if re, im := Bits(c.z); re != c.real || im != c.imag {
			t.Errorf("P1.1: Bits(%v): %x, %x", c.z, re, im)
		}
	}
}

func TestBitsOfNaNs(t *testing.T) {
	for _, odd := range oddNaNs() {
		for _, x := range everyFloat() {
			if re, im := Bits(complex(odd, x)); re != nanBits || im != wantBits(x) {
				t.Errorf("P1.1: Bits(%x, %v): %x, %x", math.Float64bits(odd), x, re, im)
			}
			if re, im := Bits(complex(x, odd)); re != wantBits(x) || im != nanBits {
				t.Errorf("P1.1: Bits(%v, %x): %x, %x", x, math.Float64bits(odd), re, im)
			}
		}
	}
}

func TestSame(t *testing.T) {
	for _, a := range everyNumber() {
		for _, b := range everyNumber() {
			want := wantBits(real(a)) == wantBits(real(b)) && wantBits(imag(a)) == wantBits(imag(b))
			if Same(a, b) != want {
				t.Fatalf("P1.1: Same(%v, %v) is not %t", a, b, want)
			}
		}
	}
}

func TestSameTellsNoughtsApart(t *testing.T) {
	if Same(0, complex(minus0, 0)) || Same(0, complex(0, minus0)) {
		t.Error("P1.1: plus and minus nought are the same")
	}
	if Same(1+2i, 2+1i) || Same(1, 1i) {
		t.Error("P1.1: parts that are changed about are the same")
	}
}

// place is where x stands in the order of the chapter.
func place(x float64) int {
	for i, y := range rising() {
		if math.Float64bits(x) == math.Float64bits(y) {
			return i
		}
	}
	return len(rising())
}

func TestOrder(t *testing.T) {
	type placed struct {
		z          complex128
		real, imag int
	}
	var all []placed
	for _, z := range everyNumber() {
		all = append(all, placed{z, place(real(z)), place(imag(z))})
	}
	for _, a := range all {
		for _, b := range all {
			want := 0
			switch {
			case a.real < b.real || a.real == b.real && a.imag < b.imag:
				want = -1
			case a.real > b.real || a.imag > b.imag:
				want = 1
			}
			if got := Order(a.z, b.z); got != want {
				t.Fatalf("P1.1: Order(%v, %v): %d, not %d", a.z, b.z, got, want)
			}
		}
	}
}

func TestOrderOfScattered(t *testing.T) {
	all := scattered(2000)
	for i, a := range all[1:] {
		b := all[i]
		if Order(a, b) != -Order(b, a) || (Order(a, b) == 0) != Same(a, b) {
			t.Fatalf("P1.1: Order(%v, %v): %d, and %d turned about", a, b, Order(a, b), Order(b, a))
		}
		if real(a) < real(b) && Order(a, b) != -1 || real(a) > real(b) && Order(a, b) != 1 {
			t.Fatalf("P1.1: Order(%v, %v): %d", a, b, Order(a, b))
		}
	}
}

func TestAddAndSub(t *testing.T) {
	expect(t, "P1.2: Add", Add(1+2i, 3+5i), 4+7i)
	expect(t, "P1.2: Sub", Sub(1+2i, 3+5i), -2-3i)
	expect(t, "P1.2: Add rounds", Add(bound, 1), bound)
	expect(t, "P1.2: Add past the greatest", Add(complex(math.MaxFloat64, 1), math.MaxFloat64), complex(infinity, 1))
	expect(t, "P1.2: Add of infinities", Add(complex(infinity, 1), complex(-infinity, 1)), complex(nan, 2))
	expect(t, "P1.2: Sub of infinities", Sub(complex(1, infinity), complex(1, infinity)), complex(0, nan))
	expect(t, "P1.2: Add of a NaN", Add(complex(nan, 1), 1+1i), complex(nan, 2))
	expect(t, "P1.2: Sub of a NaN", Sub(1+1i, complex(1, nan)), complex(0, nan))
	expect(t, "P1.2: Add of noughts below", Add(complex(minus0, minus0), complex(minus0, minus0)), complex(minus0, minus0))
	expect(t, "P1.2: Add of noughts", Add(complex(minus0, 0), complex(0, minus0)), 0)
	expect(t, "P1.2: Sub of noughts", Sub(complex(minus0, 0), complex(0, minus0)), complex(minus0, 0))
	expect(t, "P1.2: Sub of itself", Sub(3+4i, 3+4i), 0)
}

func TestAddAndSubPartByPart(t *testing.T) {
	for _, a := range everyNumber() {
		for _, b := range everyNumber() {
			expect(t, "P1.2: Add", Add(a, b), complex(real(a)+real(b), imag(a)+imag(b)))
			expect(t, "P1.2: Sub", Sub(a, b), complex(real(a)-real(b), imag(a)-imag(b)))
		}
	}
}

func TestMul(t *testing.T) {
	expect(t, "P1.2: Mul", Mul(1+2i, 3+4i), -5+10i)
	expect(t, "P1.2: Mul of other signs", Mul(2-3i, -5+7i), 11+29i)
	expect(t, "P1.2: Mul of i", Mul(1i, 1i), -1)
	expect(t, "P1.2: Mul of nought", Mul(0, -1), complex(minus0, 0))
	expect(t, "P1.2: Mul of minus nought", Mul(complex(minus0, minus0), 1), complex(0, minus0))
	expect(t, "P1.2: Mul past the greatest", Mul(1e308, 10), complex(infinity, 0))
	expect(t, "P1.2: Mul below the least", Mul(5e-324, 0.25), 0)
	expect(t, "P1.2: Mul of a NaN", Mul(complex(nan, 1), 1+1i), complex(nan, nan))
}

// Some products of infinities are mended in other languages; here they are not.
func TestMulMendsNoInfinity(t *testing.T) {
	expect(t, "P1.2: infinity times 1", Mul(complex(infinity, 0), 1), complex(infinity, nan))
	expect(t, "P1.2: infinity times i", Mul(complex(infinity, 0), 1i), complex(nan, infinity))
	expect(t, "P1.2: two infinite parts", Mul(complex(infinity, infinity), 1+1i), complex(nan, infinity))
	expect(t, "P1.2: infinity and NaN", Mul(complex(infinity, nan), 1+1i), complex(nan, nan))
	expect(t, "P1.2: products past the greatest", Mul(complex(1e200, 1e200), complex(1e200, 1e200)), complex(nan, infinity))
}

// Each product by itself is 1 + 2^-29 + 2^-60: rounded it loses the last part,
// fused with the sum it would not.
func TestMulRoundsEachProduct(t *testing.T) {
	const x = 1 + 0x1p-30
	expect(t, "P1.2: real by real", Mul(complex(x, 1), complex(x, 1)), complex(0x1p-29, 2*x))
	expect(t, "P1.2: imag by imag", Mul(complex(1, x), complex(1, x)), complex(-0x1p-29, 2*x))
	expect(t, "P1.2: real by imag", Mul(complex(x, -1), complex(1, x)), complex(2*x, 0x1p-29))
	expect(t, "P1.2: imag by real", Mul(complex(-1, x), complex(x, 1)), complex(-2*x, 0x1p-29))
}

// turned is z with the sign bit of its imaginary part flipped, as raw bits.
func turned(z complex128) (uint64, uint64) {
	return math.Float64bits(real(z)), math.Float64bits(imag(z)) ^ negative
}

func TestConj(t *testing.T) {
	expect(t, "P1.2: Conj", Conj(1+2i), 1-2i)
	expect(t, "P1.2: Conj of a real number", Conj(1), complex(1, minus0))
	expect(t, "P1.2: Conj of minus nought", Conj(complex(minus0, minus0)), complex(minus0, 0))
	expect(t, "P1.2: Conj of infinity", Conj(complex(-infinity, -infinity)), complex(-infinity, infinity))
	for _, z := range append(everyNumber(), scattered(2000)...) {
		re, im := turned(z)
		got := Conj(z)
		if math.Float64bits(real(got)) != re || math.Float64bits(imag(got)) != im {
			t.Errorf("P1.2: Conj(%v): %x, %x, not %x, %x", z, math.Float64bits(real(got)), math.Float64bits(imag(got)), re, im)
		}
	}
}

// wholes lists the numbers inside the bounds that a slip would miss first.
func wholes() []int {
	return []int{0, 1, -1, 2, -2, 7, -7, 1 << 31, -1 << 31, 1 << 32, 1<<40 + 1, bound - 1, bound, 1 - bound, -bound}
}

func TestWhole(t *testing.T) {
	for _, n := range wholes() {
		expect(t, "P1.3: Whole", Whole(n), complex(float64(n), 0))
	}
	for _, n := range []int{bound + 1, bound + 2, -bound - 1, -bound - 2, 1 << 62, math.MaxInt, math.MinInt} {
		expect(t, "P1.3: Whole out of bounds", Whole(n), 0)
	}
}

func TestInt(t *testing.T) {
	for _, c := range []struct {
		z complex128
		n int
	}{{0, 0}, {7, 7}, {-7, -7}, {bound, bound}, {-bound, -bound}, {bound - 1, bound - 1}, {1 - bound, 1 - bound}} {
		if n, ok := Int(c.z); n != c.n || !ok {
			t.Errorf("P1.3: Int(%v): %d, %t", c.z, n, ok)
		}
	}
}

func TestIntOfWhatIsNone(t *testing.T) {
	none := []complex128{
		0.5, -0.5, 7.5, bound/2 - 0.5, 5e-324, 1i, 1 + 1i, complex(1, 5e-324), complex(0, infinity),
		complex(minus0, 0), complex(0, minus0), complex(1, minus0), complex(minus0, minus0),
		complex(infinity, 0), complex(-infinity, 0), complex(math.MaxFloat64, 0), complex(-math.MaxFloat64, 0),
		bound + 2, -bound - 2, 1 << 54, 1 << 63, -1 << 63, 1 << 64, 1<<64 + 1<<32,
	}
	for _, odd := range oddNaNs() {
		none = append(none, complex(odd, 0), complex(0, odd), complex(odd, odd))
	}
	for _, z := range none {
		if n, ok := Int(z); n != 0 || ok {
			t.Errorf("P1.3: Int(%v): %d, %t", z, n, ok)
		}
	}
}

func TestIntOfWhole(t *testing.T) {
	all := wholes()
	for i := range 1000 {
		all = append(all, i, -i, bound-i, i-bound, 1+i*9007199254740, 1-i*9007199254740)
	}
	for _, n := range all {
		if got, ok := Int(Whole(n)); got != n || !ok {
			t.Errorf("P1.5: Int(Whole(%d)): %d, %t", n, got, ok)
		}
	}
}

func TestTurnedAbout(t *testing.T) {
	check := func(a, b complex128) {
		expect(t, "P1.5: Mul turned about", Mul(a, b), Mul(b, a))
		expect(t, "P1.5: Add turned about", Add(a, b), Add(b, a))
	}
	for _, a := range everyNumber() {
		for _, b := range everyNumber() {
			check(a, b)
		}
	}
	all := scattered(2000)
	for i, a := range all[1:] {
		check(a, all[i])
	}
}

func TestConjTwice(t *testing.T) {
	for _, z := range append(everyNumber(), scattered(2000)...) {
		got := Conj(Conj(z))
		if math.Float64bits(real(got)) != math.Float64bits(real(z)) || math.Float64bits(imag(got)) != math.Float64bits(imag(z)) {
			t.Errorf("P1.5: Conj twice of %v: %v", z, got)
		}
	}
}

// Every call must answer at every number; what it answers the other tests ask.
func TestEveryNumberIsAnswered(t *testing.T) {
	for _, z := range append(everyNumber(), scattered(2000)...) {
		if !Same(z, z) || Order(z, z) != 0 {
			t.Errorf("P1.4: %v is not itself", z)
		}
		n, ok := Int(z)
		if ok != Same(z, Whole(n)) {
			t.Errorf("P1.4: Int(%v): %d, %t", z, n, ok)
		}
	}
}
