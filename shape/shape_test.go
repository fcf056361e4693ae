package shape

import (
	"math"
	"slices"
	"testing"

	"spolia/api"
)

// object has n fields, every third of them a reference.
func object(n int) Shape {
	refs := make([]bool, n)
	for k := range refs {
		refs[k] = k%3 == 0
	}
	return Shape{Refs: refs}
}

func array(ref bool) Shape { return Shape{Array: true, Refs: []bool{ref}} }

// oddArrays lists arrays that may not be.
func oddArrays() []Shape {
	return []Shape{
		{Array: true}, {Array: true, Refs: []bool{}}, {Array: true, Refs: make([]bool, 0, 1)},
		{Array: true, Refs: []bool{true, true}}, {Array: true, Refs: []bool{false, true}}, {Array: true, Refs: make([]bool, 3)},
		{Array: true, Refs: make([]bool, 6)}, {Array: true, Refs: make([]bool, 40)}, {Array: true, Refs: make([]bool, 41)},
	}
}

// oddObjects lists objects that may not be.
func oddObjects() []Shape {
	return []Shape{object(41), object(42), object(47), object(48), object(512), object(1 << 16)}
}

// outside lists lengths that no array has.
func outside() []int {
	return []int{
		-1, -2, -7, -8, -9, -512, -513, math.MinInt, math.MinInt + 1, math.MinInt32,
		513, 514, 519, 520, 521, 1024, 4096, math.MaxInt32, math.MaxInt32 - 7, math.MaxInt, math.MaxInt - 1, math.MaxInt - 6, math.MaxInt - 7,
	}
}

// filled counts, one by one, how many parts of a size n fills.
func filled(n, size int) int {
	parts := 0
	for n > 0 {
		n -= size
		parts++
	}
	return parts
}

func TestLimits(t *testing.T) {
	if api.FragWords != 8 || api.MaxFields != 40 || api.MaxLength != 512 || api.Inline != 4 {
		t.Fatal("the tests of chapter 3 are written for other limits")
	}
}

func TestMay(t *testing.T) {
	if !May(Shape{}) || !May(Shape{Refs: []bool{}}) {
		t.Error("P3.1: an object without fields may not be")
	}
	for n := range 41 {
		if !May(object(n)) {
			t.Errorf("P3.1: an object of %d fields may not be", n)
		}
	}
	for _, s := range oddObjects() {
		if May(s) {
			t.Errorf("P3.1: an object of %d fields may be", len(s.Refs))
		}
	}
	if !May(array(false)) || !May(array(true)) {
		t.Error("P3.1: an array of one kind may not be")
	}
	for _, s := range oddArrays() {
		if May(s) {
			t.Errorf("P3.1: an array of %d entries may be", len(s.Refs))
		}
	}
}

func TestData(t *testing.T) {
	for _, c := range [][2]int{{0, 0}, {1, 1}, {7, 1}, {8, 1}, {9, 2}, {16, 2}, {17, 3}, {32, 4}, {33, 5}, {504, 63}, {505, 64}, {511, 64}, {512, 64}} {
		if got := Data(c[0]); got != c[1] {
			t.Errorf("P3.1: Data(%d): %d, not %d", c[0], got, c[1])
		}
	}
	for n := range 513 {
		if got, want := Data(n), filled(n, 8); got != want {
			t.Errorf("P3.1: Data(%d): %d, not %d", n, got, want)
		}
	}
	for _, n := range outside() {
		if got := Data(n); got != 0 {
			t.Errorf("P3.1: Data(%d): %d, not 0", n, got)
		}
	}
}

func TestSizeOfObjects(t *testing.T) {
	for _, c := range [][2]int{{0, 1}, {1, 1}, {5, 1}, {6, 1}, {7, 2}, {13, 2}, {14, 3}, {20, 3}, {21, 4}, {27, 4}, {28, 5}, {34, 5}, {35, 6}, {40, 6}} {
		if got := Size(object(c[0]), 0); got != c[1] {
			t.Errorf("P3.1: Size of %d fields: %d, not %d", c[0], got, c[1])
		}
	}
	for fields := range 41 {
		if got, want := Size(object(fields), 0), 1+filled(fields-6, 7); got != want {
			t.Errorf("P3.1: Size of %d fields: %d, not %d", fields, got, want)
		}
		for _, n := range append(outside(), 1, 2, 6, 8, 40, 512) {
			if got := Size(object(fields), n); got != -1 {
				t.Errorf("P3.1: Size of %d fields, %d: %d, not -1", fields, n, got)
			}
		}
	}
	for _, s := range oddObjects() {
		for _, n := range append(outside(), 0, 1, 8, 512) {
			if got := Size(s, n); got != -1 {
				t.Errorf("P3.1: Size of %d fields, %d: %d, not -1", len(s.Refs), n, got)
			}
		}
	}
}

func TestSizeOfArrays(t *testing.T) {
	for _, ref := range []bool{false, true} {
		for n := range 513 {
			if got, want := Size(array(ref), n), 1+filled(n, 8); got != want {
				t.Errorf("P3.1: Size of an array, %d: %d, not %d", n, got, want)
			}
		}
		for _, n := range outside() {
			if got := Size(array(ref), n); got != -1 {
				t.Errorf("P3.1: Size of an array, %d: %d, not -1", n, got)
			}
		}
	}
	for _, s := range oddArrays() {
		for _, n := range append(outside(), 0, 1, 8, 9, 33, 512) {
			if got := Size(s, n); got != -1 {
				t.Errorf("P3.1: Size of an array of %d entries, %d: %d, not -1", len(s.Refs), n, got)
			}
		}
	}
}

func TestSpine(t *testing.T) {
	for _, c := range [][2]int{{0, 0}, {1, 0}, {31, 0}, {32, 0}, {33, 7}, {40, 7}, {41, 8}, {50, 9}, {511, 66}, {512, 66}} {
		if got := Spine(array(true), c[0]); got != c[1] {
			t.Errorf("P3.1: Spine of %d: %d, not %d", c[0], got, c[1])
		}
	}
	for n := range 513 {
		want := 0
		if n > 32 {
			want = filled(n, 8) + 2
		}
		for _, ref := range []bool{false, true} {
			if got := Spine(array(ref), n); got != want {
				t.Errorf("P3.1: Spine of %d: %d, not %d", n, got, want)
			}
		}
	}
	for _, n := range outside() {
		if got := Spine(array(true), n); got != 0 {
			t.Errorf("P3.1: Spine of %d: %d, not 0", n, got)
		}
	}
}

func TestSpineOfWhatHasNone(t *testing.T) {
	all := append(oddObjects(), oddArrays()...)
	for fields := range 41 {
		all = append(all, object(fields))
	}
	for _, s := range all {
		for _, n := range append(outside(), 0, 1, 32, 33, 40, 50, 512) {
			if got := Spine(s, n); got != 0 {
				t.Errorf("P3.1: Spine of %t, %d entries, %d: %d, not 0", s.Array, len(s.Refs), n, got)
			}
		}
	}
}

func TestPlace(t *testing.T) {
	for _, c := range [][3]int{
		{0, 0, 2}, {1, 0, 3}, {5, 0, 7}, {6, 1, 1}, {7, 1, 2}, {12, 1, 7}, {13, 2, 1}, {19, 2, 7}, {20, 3, 1}, {26, 3, 7},
		{27, 4, 1}, {33, 4, 7}, {34, 5, 1}, {39, 5, 6},
	} {
		if frag, at, ok := Place(object(40), c[0]); frag != c[1] || at != c[2] || !ok {
			t.Errorf("P3.2: Place of the field %d: %d, %d, %t", c[0], frag, at, ok)
		}
	}
	for fields := range 41 {
		frag, at := 0, 2
		for k := range fields {
			if at == 8 {
				frag, at = frag+1, 1
			}
			if f, w, ok := Place(object(fields), k); f != frag || w != at || !ok {
				t.Errorf("P3.2: %d fields: Place(%d): %d, %d, %t, not %d, %d", fields, k, f, w, ok, frag, at)
			}
			at++
		}
	}
}

func noPlace(t *testing.T, s Shape, k int) {
	t.Helper()
	if frag, at, ok := Place(s, k); frag != 0 || at != 0 || ok {
		t.Errorf("P3.2: array %t, %d entries: Place(%d): %d, %d, %t", s.Array, len(s.Refs), k, frag, at, ok)
	}
}

func TestPlaceOfNoSuchField(t *testing.T) {
	for fields := range 41 {
		for _, k := range append(outside(), fields, fields+1, fields+7, 40, 41) {
			noPlace(t, object(fields), k)
		}
		// A field behind the length is none, however much memory is there.
		noPlace(t, Shape{Refs: make([]bool, fields, 64)}, fields)
	}
	noPlace(t, Shape{}, 0)
}

func TestPlaceOfWhatIsNoObject(t *testing.T) {
	all := append(oddObjects(), oddArrays()...)
	all = append(all, array(false), array(true))
	for _, s := range all {
		for _, k := range append(outside(), 0, 1, 2, 5, 6, 7, 39, 40, 41) {
			noPlace(t, s, k)
		}
	}
}

func TestPlacesStandApart(t *testing.T) {
	for fields := range 41 {
		met := map[[2]int]int{}
		s := object(fields)
		last := 0
		for k := range fields {
			frag, at, _ := Place(s, k)
			if other, twice := met[[2]int{frag, at}]; twice {
				t.Errorf("P3.3: %d fields: %d and %d have one place", fields, other, k)
			}
			met[[2]int{frag, at}] = k
			if frag < 0 || frag >= Size(s, 0) || at < 0 || at >= 8 {
				t.Errorf("P3.3: %d fields: %d at %d, %d is not within %d fragments", fields, k, frag, at, Size(s, 0))
			}
			last = frag
		}
		if last != Size(s, 0)-1 {
			t.Errorf("P3.3: %d fields: the last fragment of %d is for nothing", fields, Size(s, 0))
		}
	}
}

func TestShapesStay(t *testing.T) {
	room := []bool{true, false, true, true, false, false, true, true, true}
	before := slices.Clone(room)
	for _, isArray := range []bool{false, true} {
		for n := range 8 {
			s := Shape{Array: isArray, Refs: room[:n]}
			May(s)
			Size(s, n)
			Spine(s, n)
			Place(s, n-1)
		}
	}
	if !slices.Equal(room, before) {
		t.Error("P0.4: what was handed in was changed")
	}
}
