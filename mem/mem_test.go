package mem

import (
	"math"
	"testing"

	"spolia/api"
	"spolia/num"
)

const bound = 1048576 // 2^20

// made is a memory of n words that may be.
func made(t *testing.T, n int) *Mem {
	t.Helper()
	m, e := New(n)
	if m == nil || e != api.OK {
		t.Fatalf("P6.1: New(%d): a memory: %t, %d", n, m != nil, e)
	}
	return m
}

// noughts lists n words that are 0, as a new memory must have them.
func noughts(n int) []complex128 { return make([]complex128, n) }

// everyFloat lists those that a slip would miss first: both noughts, the least
// and the greatest, infinities, and NaNs that differ by their bits.
func everyFloat() []float64 {
	all := []float64{0, 1, 1.5, 2, 0.1, 5e-324, 0x1p-1022, 1 << 24, 1<<24 + 1, 1 << 40, 1 << 53, math.MaxFloat32, math.MaxFloat64, math.Inf(1)}
	for _, x := range all {
		all = append(all, math.Copysign(x, -1))
	}
	for _, bits := range []uint64{
		0x7FF8000000000000, 0x7FF8000000000001, 0x7FF0000000000001, 0x7FFFFFFFFFFFFFFF, 0xFFF8000000000000, 0xFFF0000000000001,
	} {
		all = append(all, math.Float64frombits(bits))
	}
	return all
}

// everyWord has each pair of floats as its parts.
func everyWord() []complex128 {
	var all []complex128
	for _, x := range everyFloat() {
		for _, y := range everyFloat() {
			all = append(all, complex(x, y))
		}
	}
	return all
}

// scattered answers a function that tells numbers of any bits, the same ones in
// every run.
func scattered() func() uint64 {
	state := uint64(6)
	return func() uint64 {
		state += 0x9E3779B97F4A7C15
		z := (state ^ state>>30) * 0xBF58476D1CE4E5B9
		z = (z ^ z>>27) * 0x94D049BB133111EB
		return z ^ z>>31
	}
}

// missing lists numbers of words that a memory of n doesn't have, some of which
// would wrap to one that it has.
func missing(n int) []int {
	return []int{
		-1, -2, -n - 1, -n - bound, math.MinInt, math.MinInt + 1, math.MinInt32, -1 << 32, -1 << 16,
		n, n + 1, 2*n + 1, n + bound, bound, bound + 1, math.MaxInt32, 1 << 32, 1<<32 + 1, 1 << 62, math.MaxInt - 1, math.MaxInt,
	}
}

// holds fails the test unless the words are these, by their bits, and looking
// at them counts nothing.
func holds(t *testing.T, what string, m *Mem, want []complex128) {
	t.Helper()
	before := m.Count()
	if m.Len() != len(want) {
		t.Fatalf("P6.1: %s: Len is %d, not %d", what, m.Len(), len(want))
	}
	for a, w := range want {
		if got := m.Peek(a); !num.Same(got, w) {
			t.Fatalf("P6.3: %s: Peek(%d) is %v, not %v", what, a, got, w)
		}
	}
	if m.Count() != before {
		t.Fatalf("P6.1: %s: Peek or Len counts: %d, not %d", what, m.Count(), before)
	}
}

func counts(t *testing.T, what string, m *Mem, want int) {
	t.Helper()
	if got := m.Count(); got != want {
		t.Fatalf("P6.1: %s: Count is %d, not %d", what, got, want)
	}
}

func TestExample(t *testing.T) {
	m := made(t, 1)
	w, e := m.Read(0)
	if !num.Same(w, 0) || e != api.OK {
		t.Errorf("P6.1: Read(0) of New(1): %v, %d", w, e)
	}
	counts(t, "the example", m, 1)
}

func TestNew(t *testing.T) {
	for _, n := range []int{0, 1, 2, 7, 8, 1000, 1<<16 - 1, 1 << 16, 1<<16 + 1, bound - 1, bound} {
		m := made(t, n)
		counts(t, "a new memory", m, 0)
		holds(t, "a new memory", m, noughts(n))
		for _, a := range []int{0, n / 2, n - 1} {
			if a < 0 || a >= n {
				continue
			}
			if w, e := m.Read(a); !num.Same(w, 0) || e != api.OK {
				t.Errorf("P6.1: Read(%d) of New(%d): %v, %d", a, n, w, e)
			}
		}
	}
}

func TestNewOutOfBounds(t *testing.T) {
	for _, n := range []int{
		-1, -2, -bound, math.MinInt32, math.MinInt, math.MinInt + 1,
		bound + 1, bound + 2, 2 * bound, math.MaxInt32, 1 << 32, 1<<32 + 1, 1 << 62, math.MaxInt - 1, math.MaxInt,
	} {
		if m, e := New(n); m != nil || e != api.ErrRange {
			t.Errorf("P6.1: New(%d): a memory: %t, %d", n, m != nil, e)
		}
	}
}

// TestNoSuchWord asks full memories, so that whatever were written or read by
// mistake would show.
func TestNoSuchWord(t *testing.T) {
	for _, n := range []int{0, 1, 5, 64} {
		m, all := made(t, n), noughts(n)
		for a := range all {
			all[a] = complex(float64(a+1), -2)
			m.Write(a, all[a])
		}
		count := n
		for _, a := range missing(n) {
			if e := m.Write(a, 3+4i); e != api.ErrRange {
				t.Errorf("P6.1: Write(%d) of %d words: %d", a, n, e)
			}
			counts(t, "a Write of no word", m, count+1)
			if w, e := m.Read(a); !num.Same(w, 0) || e != api.ErrRange {
				t.Errorf("P6.1: Read(%d) of %d words: %v, %d", a, n, w, e)
			}
			counts(t, "a Read of no word", m, count+2)
			if w := m.Peek(a); !num.Same(w, 0) {
				t.Errorf("P6.1: Peek(%d) of %d words: %v", a, n, w)
			}
			count += 2
			counts(t, "a Peek of no word", m, count)
			holds(t, "behind a Write of no word", m, all)
		}
	}
}

func TestCount(t *testing.T) {
	m := made(t, 3)
	for k := range 100 {
		if k%3 == 0 {
			m.Write(k%2, 1)
		} else {
			m.Read(k % 3)
		}
		m.Peek(k % 5)
		m.Len()
		counts(t, "one more call", m, k+1)
		counts(t, "asked once more", m, k+1)
	}
}

// samePart compares by all bits, but that any NaN may come of a NaN. It stands
// beside num.Same, that a slip there can't hide one here.
func samePart(got, want float64) bool {
	if want != want {
		return got != got
	}
	return math.Float64bits(got) == math.Float64bits(want)
}

func TestWrittenIsRead(t *testing.T) {
	m := made(t, 4)
	for i, want := range everyWord() {
		a := i % 4
		if e := m.Write(a, want); e != api.OK {
			t.Fatalf("P6.1: Write(%d): %d", a, e)
		}
		for range 2 {
			w, e := m.Read(a)
			if e != api.OK || !samePart(real(w), real(want)) || !samePart(imag(w), imag(want)) {
				t.Errorf("P6.2: Read(%d) behind Write of %v: %v, %d", a, want, w, e)
			}
			if w := m.Peek(a); !samePart(real(w), real(want)) || !samePart(imag(w), imag(want)) {
				t.Errorf("P6.2: Peek(%d) behind Write of %v: %v", a, want, w)
			}
		}
	}
	counts(t, "three calls for each word", m, 3*len(everyWord()))
}

// TestOtherWordsStay writes each word by itself, and looks at all.
func TestOtherWordsStay(t *testing.T) {
	for _, n := range []int{1, 2, 9, 40} {
		m, all := made(t, n), noughts(n)
		for _, w := range []complex128{1 + 2i, complex(math.Copysign(0, -1), math.NaN()), 0} {
			for a := range n {
				m.Write(a, w)
				all[a] = w
				holds(t, "one word written", m, all)
			}
		}
	}
}

func TestLastWrittenStands(t *testing.T) {
	const n = 23
	m, all, next := made(t, n), noughts(n), scattered()
	for k := range 20000 {
		a := int(next()%(n+6)) - 3
		in := a >= 0 && a < n
		want, errno := complex128(0), api.ErrRange
		if in {
			want, errno = all[a], api.OK
		}
		if next()%2 == 0 {
			w := complex(math.Float64frombits(next()), math.Float64frombits(next()))
			if e := m.Write(a, w); e != errno {
				t.Fatalf("P6.1: Write(%d): %d, not %d", a, e, errno)
			}
			if in {
				all[a] = w
			}
		} else if w, e := m.Read(a); !num.Same(w, want) || e != errno {
			t.Fatalf("P6.3: Read(%d): %v, %d, not %v, %d", a, w, e, want, errno)
		}
		counts(t, "one more call", m, k+1)
		holds(t, "one more call", m, all)
	}
}

func TestGreatest(t *testing.T) {
	m, all := made(t, bound), noughts(bound)
	for _, a := range []int{0, 1, 1<<16 - 1, 1 << 16, bound / 2, bound - 2, bound - 1} {
		all[a] = complex(float64(a), 1)
		if e := m.Write(a, all[a]); e != api.OK {
			t.Errorf("P6.1: Write(%d): %d", a, e)
		}
	}
	holds(t, "the greatest memory", m, all)
	if w, e := m.Read(bound - 1); !num.Same(w, bound-1+1i) || e != api.OK {
		t.Errorf("P6.2: Read of the last word: %v, %d", w, e)
	}
}

// TestMemoriesStandApart: neither words nor counts are another one's.
func TestMemoriesStandApart(t *testing.T) {
	first, second := made(t, 4), made(t, 4)
	first.Write(1, 5)
	first.Read(9)
	New(-1)
	third := made(t, 4)
	counts(t, "the first", first, 2)
	counts(t, "the second", second, 0)
	counts(t, "the third", third, 0)
	holds(t, "the first", first, []complex128{0, 5, 0, 0})
	holds(t, "the second", second, noughts(4))
	holds(t, "the third", third, noughts(4))
}

// TestFrom: what is written as part of it counts nothing, and is read as any
// other word is.
func TestFrom(t *testing.T) {
	for _, n := range []int{0, 1, 2, 9, 1000, bound - 1, bound} {
		words := noughts(n)
		for a := range words {
			words[a] = complex(float64(a), -1)
		}
		m, e := From(words)
		if m == nil || e != api.OK {
			t.Fatalf("P6.1: From of %d words: a memory: %t, %d", n, m != nil, e)
		}
		counts(t, "words from the first", m, 0)
		holds(t, "words from the first", m, words)
	}
	all := everyWord()
	m, _ := From(all)
	for a, want := range all {
		w, e := m.Read(a)
		if e != api.OK || !samePart(real(w), real(want)) || !samePart(imag(w), imag(want)) {
			t.Errorf("P6.2: Read(%d) of From with %v: %v, %d", a, want, w, e)
		}
	}
	counts(t, "each word read", m, len(all))
	if m, e := From(nil); m == nil || e != api.OK || m.Len() != 0 {
		t.Errorf("P6.1: From of nothing: a memory: %t, %d", m != nil, e)
	}
	for _, n := range []int{bound + 1, bound + 2, 2 * bound} {
		if m, e := From(noughts(n)); m != nil || e != api.ErrRange {
			t.Errorf("P6.1: From of %d words: a memory: %t, %d", n, m != nil, e)
		}
	}
}

// TestFromKeepsNothing: neither the list nor what lies behind its length is the
// memory's.
func TestFromKeepsNothing(t *testing.T) {
	words := []complex128{1, 2, 3, 4}
	m, _ := From(words[1:3])
	twin, _ := From(words[1:3])
	words[1] = 9
	holds(t, "behind a change of the list", m, []complex128{2, 3})
	m.Write(1, 7)
	if e := m.Write(2, 7); e != api.ErrRange {
		t.Errorf("P6.1: Write behind the last word: %d", e)
	}
	for a, want := range []complex128{1, 9, 3, 4} {
		if words[a] != want {
			t.Errorf("P6.1: Write changes the list that was handed in at %d: %v", a, words[a])
		}
	}
	holds(t, "one more of the same list", twin, []complex128{2, 3})
	counts(t, "one more of the same list", twin, 0)
}
