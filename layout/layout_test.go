package layout

import (
	"math"
	"slices"
	"testing"

	"spolia/conf"
	"spolia/num"
	"spolia/shape"
	"spolia/word"
)

// heap is a conf of 10 fragments and 103 words in all.
func heap() conf.Conf {
	return conf.Conf{
		Frags: 10, Spine: 10, Globals: 3, Threads: 1, Locals: 1, Stack: 4,
		Shapes: []shape.Shape{{Refs: []bool{true, false}}, {Array: true, Refs: []bool{true}}},
	}
}

// odd lists words that are no whole number, no Head and no Ref.
func odd() []complex128 {
	minus, nan, far := math.Copysign(0, -1), math.NaN(), math.Inf(1)
	return []complex128{
		complex(0, minus), complex(minus, 0), complex(1, minus), complex(0.5, 0), complex(1.5, 0), complex(2, 0.5),
		complex(nan, 0), complex(0, nan), complex(1, nan), complex(far, 0), complex(0, far), complex(-far, 1), complex(nan, 1),
		complex(1<<60, 0), complex(1<<63, 0), complex(1e300, 0), complex(1<<63, 1), complex(1, -1), complex(-1, 1), complex(1<<53, 0),
	}
}

func TestHead(t *testing.T) {
	for kind, want := range heap().Shapes {
		for _, mode := range []int{0, 1, 2, 1 << 40} {
			s, m, ok := Head(heap(), word.Head(kind, mode))
			if !ok || m != mode || s.Array != want.Array || !slices.Equal(s.Refs, want.Refs) {
				t.Errorf("P13.1: of the kind %d, the mode %d: %v, %d, %t", kind, mode, s, m, ok)
			}
		}
	}
	for _, w := range append(odd(), word.Head(2, 0), word.Head(3, 1), word.Head(1<<40, 0), -1, complex(0, -1)) {
		if s, m, ok := Head(heap(), w); ok || m != 0 || s.Array || s.Refs != nil {
			t.Errorf("P13.1: the word 1 is %v: %v, %d, %t", w, s, m, ok)
		}
	}
}

func TestMayHead(t *testing.T) {
	for _, mode := range []int{-1, 0, 1, 2, 3, 1 << 40} {
		if ok := MayHead(shape.Shape{}, mode); ok != (mode == 0 || mode == 1) {
			t.Errorf("P13.1: an object of the mode %d: %t", mode, ok)
		}
		if ok := MayHead(shape.Shape{Array: true}, mode); ok != (mode == 0) {
			t.Errorf("P13.1: an array of the mode %d: %t", mode, ok)
		}
	}
}

func TestLength(t *testing.T) {
	for n := -3; n <= 515; n++ {
		want := n >= 0 && n <= 512
		if got, ok := Length(num.Whole(n)); ok != want || ok && got != n || !ok && got != 0 {
			t.Errorf("P13.1: the word 2 is %d: %d, %t", n, got, ok)
		}
	}
	for _, w := range append(odd(), word.None(), word.Ref(7)) {
		if n, ok := Length(w); ok || n != 0 {
			t.Errorf("P13.1: the word 2 is %v: %d, %t", w, n, ok)
		}
	}
}

func TestMode(t *testing.T) {
	for _, n := range []int{0, 1, 8, 31, 32, 33, 40, 512} {
		for mode := -2; mode < 6; mode++ {
			want := mode == 0 && n <= 32 || (mode == 1 || mode == 2) && n > 32
			if got, ok := Mode(num.Whole(mode), n); ok != want || ok && got != mode || !ok && got != 0 {
				t.Errorf("P13.1: the word 3 of %d elements is %d: %d, %t", n, mode, got, ok)
			}
		}
		for _, w := range append(odd(), word.None(), word.Ref(1)) {
			if mode, ok := Mode(w, n); ok || mode != 0 {
				t.Errorf("P13.1: the word 3 of %d elements is %v: %d, %t", n, w, mode, ok)
			}
		}
	}
}

func TestSpine(t *testing.T) {
	for at := -3; at < 110; at++ {
		want := at >= 0 && at < 103
		if got, ok := Spine(heap(), num.Whole(at)); ok != want || ok && got != at || !ok && got != 0 {
			t.Errorf("P13.1: the word 4 is %d: %d, %t", at, got, ok)
		}
	}
	for _, w := range append(odd(), word.None(), word.Ref(90)) {
		if at, ok := Spine(heap(), w); ok || at != 0 {
			t.Errorf("P13.1: the word 4 is %v: %d, %t", w, at, ok)
		}
	}
}

func TestFrag(t *testing.T) {
	for i := range 20 {
		if frag, ok := Frag(heap(), word.Ref(i)); ok != (i < 10) || ok && frag != i || !ok && frag != 0 {
			t.Errorf("P13.1: a link to %d: %d, %t", i, frag, ok)
		}
	}
	for _, w := range append(odd(), word.None(), word.Ref(1<<40), 3) {
		if frag, ok := Frag(heap(), w); ok || frag != 0 {
			t.Errorf("P13.1: a link is %v: %d, %t", w, frag, ok)
		}
	}
}
