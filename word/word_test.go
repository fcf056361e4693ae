package word

import (
	"math"
	"testing"
)

const bound = 1099511627776 // 2^40

var (
	infinity = math.Inf(1)
	minus0   = math.Copysign(0, -1)
	nan      = math.NaN()
)

// inside lists the numbers inside the bounds that a slip would miss first.
func inside() []int {
	all := []int{1 << 31, 1<<31 - 1, 1<<32 - 1, 1 << 32, 1<<32 + 1, 1 << 39, 1<<39 + 1}
	for i := range 600 {
		all = append(all, i, bound-i, 1+i*1832519379)
	}
	return all
}

func outside() []int {
	return []int{
		-1, -2, -3, -bound, -bound - 1, math.MinInt, math.MinInt + 1, -1 << 32,
		bound + 1, bound + 2, bound + 3, 2 * bound, 1 << 53, 1<<53 + 1, 1 << 62, math.MaxInt - 1, math.MaxInt,
	}
}

// oddFloats lists floats about the bounds, and those that are no number inside.
func oddFloats() []float64 {
	all := []float64{
		0, 1, 2, 7, 1023, 1 << 31, 1 << 32, bound - 1, bound, bound + 1, bound + 2, bound + 3, 1 << 53, 1 << 62, 1 << 63,
		1 << 64, 1<<64 + 1<<32, 0.5, 1.5, 2.5, bound - 0.5, bound + 0.5, 1e300, math.MaxFloat64, infinity, 5e-324,
		0x1p-1022, math.Nextafter(1, 0), math.Nextafter(1, 2), math.Nextafter(2, 0), math.Nextafter(2, 3),
		math.Nextafter(bound, 0), math.Nextafter(bound, infinity),
		math.Nextafter(bound+1, 0), math.Nextafter(bound+1, infinity),
	}
	for _, x := range all {
		all = append(all, -x)
	}
	all = append(all, minus0)
	for _, bits := range []uint64{
		0x7FF8000000000000, 0x7FF8000000000001, 0x7FF0000000000001, 0x7FFFFFFFFFFFFFFF, 0xFFF8000000000000, 0xFFF0000000000001,
	} {
		all = append(all, math.Float64frombits(bits))
	}
	return all
}

// everyWord has each pair of odd floats as its parts.
func everyWord() []complex128 {
	var all []complex128
	for _, x := range oddFloats() {
		for _, y := range oddFloats() {
			all = append(all, complex(x, y))
		}
	}
	return all
}

// isWhole tells, by x alone, whether it is one of low to high, and no minus
// nought.
func isWhole(x, low, high float64) bool {
	return x >= low && x <= high && x == math.Trunc(x) && !math.Signbit(x)
}

// expect holds got against want by all of their bits: no NaN may come out.
func expect(t *testing.T, name string, got, want complex128) {
	t.Helper()
	if math.Float64bits(real(got)) != math.Float64bits(real(want)) || math.Float64bits(imag(got)) != math.Float64bits(imag(want)) {
		t.Errorf("%s: %v, not %v", name, got, want)
	}
}

func TestNone(t *testing.T) {
	expect(t, "P2.1: None", None(), 0+1i)
	if i, ok := Index(None()); i != 0 || ok {
		t.Errorf("P2.1: Index(None): %d, %t", i, ok)
	}
	if !Is(None()) {
		t.Error("P2.1: None is no reference")
	}
}

func TestRef(t *testing.T) {
	expect(t, "P2.1: Ref(0)", Ref(0), 1+1i)
	expect(t, "P2.1: Ref(41)", Ref(41), 42+1i)
	expect(t, "P2.1: Ref(2^40)", Ref(bound), 1099511627777+1i)
	for _, i := range inside() {
		expect(t, "P2.1: Ref", Ref(i), complex(float64(i+1), 1))
		if !Is(Ref(i)) {
			t.Errorf("P2.1: Ref(%d) is no reference", i)
		}
	}
	for _, i := range outside() {
		expect(t, "P2.1: Ref out of bounds", Ref(i), 0+1i)
	}
}

func TestIndex(t *testing.T) {
	for _, c := range []struct {
		w complex128
		i int
	}{{1 + 1i, 0}, {2 + 1i, 1}, {1024 + 1i, 1023}, {bound + 1i, bound - 1}, {bound + 1 + 1i, bound}} {
		if i, ok := Index(c.w); i != c.i || !ok || !Is(c.w) {
			t.Errorf("P2.1: Index(%v): %d, %t; Is: %t", c.w, i, ok, Is(c.w))
		}
	}
}

func TestIndexOfWhatIsNoRef(t *testing.T) {
	for _, w := range []complex128{
		0, 1, 2, 1 + 2i, 1 - 1i, 1 + 0.5i, 1 + 0i, -1 + 1i, -2 + 1i, 0.5 + 1i, 1.5 + 1i, -1i, 2i,
		complex(minus0, 1), complex(0, minus0), complex(1, minus0), complex(5e-324, 1), complex(1, 5e-324),
		complex(1, math.Nextafter(1, 2)), complex(math.Nextafter(1, 2), 1), complex(math.Nextafter(1, 0), 1),
		complex(nan, 1), complex(1, nan), complex(0, nan), complex(nan, nan),
		complex(infinity, 1), complex(-infinity, 1), complex(1, infinity),
		bound + 2 + 1i, 1<<53 + 1i, 1<<64 + 1i, 1e300 + 1i, -bound + 1i,
	} {
		if i, ok := Index(w); i != 0 || ok || Is(w) {
			t.Errorf("P2.1: Index(%v): %d, %t; Is: %t", w, i, ok, Is(w))
		}
	}
}

func TestIndexAndIsOfEveryWord(t *testing.T) {
	for _, w := range everyWord() {
		want := 0
		isRef := imag(w) == 1 && isWhole(real(w), 1, bound+1)
		if isRef {
			want = int(real(w)) - 1
		}
		if i, ok := Index(w); i != want || ok != isRef {
			t.Errorf("P2.1: Index(%v): %d, %t", w, i, ok)
		}
		if is := imag(w) == 1 && isWhole(real(w), 0, bound+1); Is(w) != is {
			t.Errorf("P2.1: Is(%v): %t", w, !is)
		}
	}
}

func TestHead(t *testing.T) {
	expect(t, "P2.2: Head(0, 0)", Head(0, 0), 0)
	expect(t, "P2.2: Head(3, 1)", Head(3, 1), 3+1i)
	expect(t, "P2.2: Head(1, 3)", Head(1, 3), 1+3i)
	for i, n := range inside() {
		expect(t, "P2.2: Head", Head(n, i), complex(float64(n), float64(i)))
		expect(t, "P2.2: Head", Head(i, n), complex(float64(i), float64(n)))
	}
	expect(t, "P2.2: Head of the greatest", Head(bound, bound), bound+bound*1i)
	for _, n := range outside() {
		for _, other := range []int{0, 1, bound, n} {
			expect(t, "P2.2: Head of a kind out of bounds", Head(n, other), 0)
			expect(t, "P2.2: Head of a mode out of bounds", Head(other, n), 0)
		}
	}
}

func TestTell(t *testing.T) {
	for _, c := range []struct {
		w          complex128
		kind, mode int
	}{{0, 0, 0}, {3, 3, 0}, {3i, 0, 3}, {7 + 2i, 7, 2}, {bound, bound, 0}, {bound * 1i, 0, bound}, {bound + bound*1i, bound, bound}} {
		if kind, mode, ok := Tell(c.w); kind != c.kind || mode != c.mode || !ok {
			t.Errorf("P2.2: Tell(%v): %d, %d, %t", c.w, kind, mode, ok)
		}
	}
}

// Each part that is none stands beside one that is: neither may come out.
func TestTellOfWhatIsNoHead(t *testing.T) {
	for _, x := range []float64{
		-1, -2, minus0, 0.5, 1.5, 5e-324, -5e-324, bound + 1, bound + 2, bound - 0.5, -bound, 1 << 53, 1 << 63, 1 << 64,
		1e300, -1e300, infinity, -infinity, nan, math.Nextafter(1, 2), math.Nextafter(bound, infinity),
	} {
		for _, w := range []complex128{
			complex(x, 0), complex(0, x), complex(x, 1), complex(1, x), complex(x, bound), complex(7, x), complex(x, x),
		} {
			if kind, mode, ok := Tell(w); kind != 0 || mode != 0 || ok {
				t.Errorf("P2.2: Tell(%v): %d, %d, %t", w, kind, mode, ok)
			}
		}
	}
}

func TestTellOfEveryWord(t *testing.T) {
	for _, w := range everyWord() {
		wantKind, wantMode := 0, 0
		isHead := isWhole(real(w), 0, bound) && isWhole(imag(w), 0, bound)
		if isHead {
			wantKind, wantMode = int(real(w)), int(imag(w))
		}
		if kind, mode, ok := Tell(w); kind != wantKind || mode != wantMode || ok != isHead {
			t.Errorf("P2.2: Tell(%v): %d, %d, %t", w, kind, mode, ok)
		}
	}
}

func TestIndexOfRef(t *testing.T) {
	for _, i := range inside() {
		if got, ok := Index(Ref(i)); got != i || !ok {
			t.Errorf("P2.3: Index(Ref(%d)): %d, %t", i, got, ok)
		}
	}
	for _, i := range outside() {
		if got, ok := Index(Ref(i)); got != 0 || ok {
			t.Errorf("P2.3: Index(Ref(%d)): %d, %t", i, got, ok)
		}
	}
}

func TestTellOfHead(t *testing.T) {
	all := inside()
	for i, kind := range all {
		for _, mode := range []int{0, 1, bound, all[len(all)-1-i]} {
			if k, m, ok := Tell(Head(kind, mode)); k != kind || m != mode || !ok {
				t.Errorf("P2.3: Tell(Head(%d, %d)): %d, %d, %t", kind, mode, k, m, ok)
			}
		}
	}
}

// Every call must answer at every argument; what Index and Tell answer of any
// bits must lead back to them.
func TestEveryWordIsAnswered(t *testing.T) {
	for _, w := range everyWord() {
		if i, ok := Index(w); ok {
			expect(t, "P0.1: Ref of Index", Ref(i), w)
		}
		if kind, mode, ok := Tell(w); ok {
			expect(t, "P0.1: Head of Tell", Head(kind, mode), w)
		}
	}
}
