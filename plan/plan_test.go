package plan

import (
	"math"
	"slices"
	"testing"

	"spolia/api"
	"spolia/conf"
	"spolia/num"
	"spolia/shape"
)

const none = 0 + 1i // the reference to nothing

// ref is the reference to a fragment.
func ref(frag int) complex128 { return complex(float64(frag+1), 1) }

// whole is a whole number as a word.
func whole(n int) complex128 { return complex(float64(n), 0) }

// sized is a conf that may be, with so many of each, and these shapes.
func sized(frags, spine int, shapes ...shape.Shape) conf.Conf {
	return conf.Conf{
		Frags: frags, Spine: spine, Globals: 2, Threads: 2, Locals: 3, Cache: 1, Stack: 9, Low: 1,
		Shapes: shapes,
	}
}

// mixed is a conf with eight kinds: objects and arrays by turns.
func mixed() conf.Conf {
	return sized(100, 70,
		shape.Shape{Refs: []bool{true, false}},
		shape.Shape{Array: true, Refs: []bool{true}},
		shape.Shape{},
		shape.Shape{Array: true, Refs: []bool{false}},
		shape.Shape{Refs: fields(40, 2)},
		shape.Shape{Array: true, Refs: []bool{true}},
		shape.Shape{Refs: fields(7, 1)},
		shape.Shape{Array: true, Refs: []bool{false}},
	)
}

// fields is a list of n fields: numbers, references, both by turns, or as it
// comes.
func fields(n, pattern int) []bool {
	next := scattered(uint64(n))
	l := make([]bool, n)
	for k := range l {
		switch pattern {
		case 1:
			l[k] = true
		case 2:
			l[k] = k%2 == 0
		case 3:
			l[k] = next(2) == 0
		}
	}
	return l
}

// scattered answers numbers below a bound that follow no rule one sees, the
// same ones each time.
func scattered(seed uint64) func(bound int) int {
	return func(bound int) int {
		seed += 0x9E3779B97F4A7C15
		z := (seed ^ seed>>30) * 0xBF58476D1CE4E5B9
		z = (z ^ z>>27) * 0x94D049BB133111EB
		return int((z ^ z>>31) % uint64(bound))
	}
}

// row lists n fragments side by side.
func row(from, n int) []int {
	l := make([]int, n)
	for i := range l {
		l[i] = from + i
	}
	return l
}

// shuffled lists n of so many fragments, in no order.
func shuffled(frags, n int, next func(int) int) []int {
	all := row(0, frags)
	for i := range n {
		k := i + next(frags-i)
		all[i], all[k] = all[k], all[i]
	}
	return all[:n]
}

// layouts lists ways in which n of so many fragments may stand: side by side
// at both ends and between, with a gap at each place, two of them swapped at
// each place, the last one first, the first one last, backwards, every second
// one, and in no order.
func layouts(frags, n int) [][]int {
	l := [][]int{row(0, n), row(frags-n, n), row((frags-n)/2, n)}
	for gap := 1; gap < n; gap++ {
		l = append(l, append(row(0, gap), row(gap+1, n-gap)...))
		swapped := row(1, n)
		swapped[gap-1], swapped[gap] = swapped[gap], swapped[gap-1]
		l = append(l, swapped)
	}
	if n > 1 {
		back := row(2, n)
		slices.Reverse(back)
		l = append(l, back, append([]int{frags - 1}, row(0, n-1)...), append(row(1, n-1), 0))
		second := row(0, n)
		for i := range second {
			second[i] *= 2
		}
		l = append(l, second)
	}
	next := scattered(uint64(n) * 77)
	for range 3 {
		l = append(l, shuffled(frags, n, next))
	}
	return l
}

// inOrder tells whether each is one more than the one ahead, by the first one.
func inOrder(got []int) bool { return slices.Equal(got, row(got[0], len(got))) }

// objectWrites is what P12.1 asks for, word by word.
func objectWrites(kind int, refs []bool, got []int) []Write {
	var l []Write
	mode := 0
	if inOrder(got) {
		mode = 1
	}
	field := 0
	for i, frag := range got {
		list := []complex128{none}
		if i+1 < len(got) {
			list[0] = ref(got[i+1])
		}
		if i == 0 {
			list = append(list, complex(float64(kind), float64(mode)))
		}
		for len(list) < 8 {
			w := 0i
			if field < len(refs) && refs[field] {
				w = none
			}
			list = append(list, w)
			field++
		}
		for k, w := range list {
			l = append(l, Write{8*frag + k, w})
		}
	}
	return l
}

// arrayWrites is what P12.2 asks for, word by word.
func arrayWrites(kind, n int, isRef bool, got []int, at int) []Write {
	data := (n + 7) / 8
	list := []complex128{none, complex(float64(kind), 0), whole(n)}
	spined := false
	switch {
	case data <= 4:
		list = append(list, 0, none, none, none, none)
		for k := range data {
			list[4+k] = ref(got[1+k])
		}
	case inOrder(got):
		list = append(list, 2, ref(got[1]), 0, 0, 0)
	default:
		list = append(list, 1, whole(at), 0, 0, 0)
		spined = true
	}
	var l []Write
	for k, w := range list {
		l = append(l, Write{8*got[0] + k, w})
	}
	for _, frag := range got[1:] {
		for k := range 8 {
			w := 0i
			if isRef {
				w = none
			}
			l = append(l, Write{8*frag + k, w})
		}
	}
	if spined {
		l = append(l, Write{at, ref(got[0])}, Write{at + 1, whole(data)})
		for k, frag := range got[1:] {
			l = append(l, Write{at + 2 + k, ref(frag)})
		}
	}
	return l
}

// same tells whether two lists have the same writes, by bits.
func same(a, b []Write) bool {
	return slices.EqualFunc(a, b, func(x, y Write) bool { return x.At == y.At && num.Same(x.W, y.W) })
}

// holds asks for one answer, and that each word is written once.
func holds(t *testing.T, promise, what string, x []any, l []Write, e api.Errno, want []Write) {
	t.Helper()
	if e != api.OK {
		t.Fatalf("%s: %s(%v): error %d", promise, what, x, e)
	}
	if !same(l, want) {
		t.Fatalf("%s: %s(%v):\n%v, not\n%v", promise, what, x, l, want)
	}
	var seen [8*1024 + 2*2048]bool
	for _, w := range l {
		if seen[w.At] {
			t.Fatalf("P12.4: %s(%v): the word %d is written twice", what, x, w.At)
		}
		seen[w.At] = true
	}
}

func refused(t *testing.T, promise, what string, x []any, l []Write, e, want api.Errno) {
	t.Helper()
	if e != want || len(l) != 0 {
		t.Fatalf("%s: %s(%v): %d writes, error %d, not none, error %d", promise, what, x, len(l), e, want)
	}
}

func objectHolds(t *testing.T, c conf.Conf, kind int, got []int) {
	t.Helper()
	l, e := Object(c, kind, got)
	holds(t, "P12.1", "Object", []any{kind, got}, l, e, objectWrites(kind, c.Shapes[kind].Refs, got))
}

func arrayHolds(t *testing.T, c conf.Conf, kind, n int, got []int, at int) {
	t.Helper()
	l, e := Array(c, kind, n, got, at)
	holds(t, "P12.2", "Array", []any{kind, n, got, at}, l, e, arrayWrites(kind, n, c.Shapes[kind].Refs[0], got, at))
}

func objectRefused(t *testing.T, c conf.Conf, kind int, got []int, want api.Errno) {
	t.Helper()
	l, e := Object(c, kind, got)
	refused(t, "P12.1", "Object", []any{kind, got}, l, e, want)
}

func arrayRefused(t *testing.T, c conf.Conf, kind, n int, got []int, at int, want api.Errno) {
	t.Helper()
	l, e := Array(c, kind, n, got, at)
	refused(t, "P12.2", "Array", []any{kind, n, got, at}, l, e, want)
}

func TestObjectByHand(t *testing.T) {
	c := mixed()
	l, e := Object(c, 2, []int{5})
	want := []Write{{40, 1i}, {41, 2 + 1i}, {42, 0}, {43, 0}, {44, 0}, {45, 0}, {46, 0}, {47, 0}}
	holds(t, "P12.1", "Object", []any{2}, l, e, want)
	l, e = Object(c, 6, []int{9, 3})
	want = []Write{
		{72, 4 + 1i}, {73, 6}, {74, 1i}, {75, 1i}, {76, 1i}, {77, 1i}, {78, 1i}, {79, 1i},
		{24, 1i}, {25, 1i}, {26, 0}, {27, 0}, {28, 0}, {29, 0}, {30, 0}, {31, 0},
	}
	holds(t, "P12.1", "Object", []any{6}, l, e, want)
}

func TestObjectOfEveryShape(t *testing.T) {
	for n := range 41 {
		for pattern := range 4 {
			s := shape.Shape{Refs: fields(n, pattern)}
			c := sized(20, 0, shape.Shape{Array: true, Refs: []bool{true}}, s)
			for _, got := range layouts(20, shape.Size(s, 0)) {
				objectHolds(t, c, 1, got)
			}
		}
	}
}

func TestObjectOfEveryKind(t *testing.T) {
	c := mixed()
	for kind, s := range c.Shapes {
		for first := range 90 {
			if s.Array {
				objectRefused(t, c, kind, []int{first}, api.ErrKind)
				continue
			}
			objectHolds(t, c, kind, row(first, shape.Size(s, 0)))
		}
	}
}

func TestObjectInTheGreatestHeap(t *testing.T) {
	c := sized(1024, 2048, shape.Shape{Refs: fields(40, 3)})
	objectHolds(t, c, 0, row(1018, 6))
	objectHolds(t, c, 0, []int{1023, 1022, 1021, 1020, 0, 512})
	objectRefused(t, c, 0, row(1019, 6), api.ErrRange)
}

func TestArrayByHand(t *testing.T) {
	c := mixed()
	l, e := Array(c, 3, 9, []int{2, 0, 7}, -1)
	want := []Write{{16, 1i}, {17, 3}, {18, 9}, {19, 0}, {20, 1 + 1i}, {21, 8 + 1i}, {22, 1i}, {23, 1i}}
	want = append(want, Write{0, 0}, Write{1, 0}, Write{2, 0}, Write{3, 0}, Write{4, 0}, Write{5, 0}, Write{6, 0}, Write{7, 0})
	want = append(want, Write{56, 0}, Write{57, 0}, Write{58, 0}, Write{59, 0}, Write{60, 0}, Write{61, 0}, Write{62, 0}, Write{63, 0})
	holds(t, "P12.2", "Array", []any{3, 9}, l, e, want)

	l, e = Array(c, 1, 40, []int{4, 5, 6, 7, 8, 9}, 800)
	if e != api.OK || len(l) != 48 {
		t.Fatalf("P12.2: side by side: %d writes, %d", len(l), e)
	}
	want = []Write{{32, 1i}, {33, 1}, {34, 40}, {35, 2}, {36, 6 + 1i}, {37, 0}, {38, 0}, {39, 0}}
	holds(t, "P12.2", "Array", []any{1, 40}, l[:8], e, want)

	l, e = Array(c, 1, 33, []int{4, 5, 6, 7, 9, 8}, 870)
	if e != api.OK || len(l) != 55 {
		t.Fatalf("P12.2: apart: %d writes, %d", len(l), e)
	}
	want = []Write{{32, 1i}, {33, 1}, {34, 33}, {35, 1}, {36, 870}, {37, 0}, {38, 0}, {39, 0}}
	holds(t, "P12.2", "Array", []any{1, 33}, l[:8], e, want)
	want = []Write{{870, 5 + 1i}, {871, 5}, {872, 6 + 1i}, {873, 7 + 1i}, {874, 8 + 1i}, {875, 10 + 1i}, {876, 9 + 1i}}
	holds(t, "P12.2", "Array", []any{1, 33}, l[48:], e, want)
}

func TestArrayOfEveryLength(t *testing.T) {
	c := sized(131, 70, shape.Shape{Array: true, Refs: []bool{false}}, shape.Shape{}, shape.Shape{Array: true, Refs: []bool{true}})
	from := 8 * 131
	for n := range 513 {
		for i, got := range layouts(131, 1+(n+7)/8) {
			arrayHolds(t, c, (n+i)%2*2, n, got, from+i/2%2*70)
		}
	}
}

func TestArrayOfEveryKind(t *testing.T) {
	c := mixed()
	for kind, s := range c.Shapes {
		for _, n := range []int{0, 1, 8, 9, 31, 32, 33, 64, 65, 500, 512} {
			got := row(3, 1+(n+7)/8)
			if !s.Array {
				arrayRefused(t, c, kind, n, got, 800, api.ErrKind)
				continue
			}
			arrayHolds(t, c, kind, n, got, 800)
			slices.Reverse(got)
			arrayHolds(t, c, kind, n, got, 800)
		}
	}
}

// farOff lists numbers that are no address, fragment, kind or length, some of
// which would wrap to one that is.
func farOff() []int {
	return []int{
		-1, -2, -8, -100, math.MinInt32, math.MinInt, math.MinInt + 1, math.MinInt / 8,
		1<<32 + 1, 1 << 40, math.MaxInt32, math.MaxInt, math.MaxInt - 1, math.MaxInt - 7,
		math.MaxInt / 8, math.MaxInt/8 + 1, math.MaxInt/4 + 1, math.MaxInt/2 + 1,
	}
}

func TestArraySpineAtEveryAddress(t *testing.T) {
	list := shape.Shape{Array: true, Refs: []bool{true}}
	for _, n := range []int{33, 40, 41, 48, 512} {
		data := (n + 7) / 8
		got := append([]int{70}, row(0, data)...)
		for _, spine := range []int{0, 1, 6, 7, 8, data + 1, data + 2, data + 3, 2*data + 4, 2048} {
			c := sized(71, spine, list)
			from := 8 * 71
			for at := -3; at < from+2*spine+6; at++ {
				k := at - from
				if k >= spine {
					k -= spine
				}
				if at >= from && k+data+2 <= spine {
					arrayHolds(t, c, 0, n, got, at)
				} else {
					arrayRefused(t, c, 0, n, got, at, api.ErrForm)
				}
			}
			for _, at := range farOff() {
				arrayRefused(t, c, 0, n, got, at, api.ErrForm)
			}
		}
	}
}

func TestArrayWithoutSpineTakesAnyAddress(t *testing.T) {
	c := sized(71, 0, shape.Shape{Array: true, Refs: []bool{false}})
	for _, at := range append(farOff(), row(0, 8*71+5)...) {
		arrayHolds(t, c, 0, 32, []int{9, 3, 5, 1, 7}, at)
		arrayHolds(t, c, 0, 0, []int{9}, at)
		arrayHolds(t, c, 0, 33, row(4, 6), at)
		arrayHolds(t, c, 0, 512, row(6, 65), at)
	}
}

// odd lists confs that may not be, each by one thing alone, but for the first.
func odd() []conf.Conf {
	all := []conf.Conf{{}}
	for _, set := range []func(c *conf.Conf){
		func(c *conf.Conf) { c.Frags = 3 },
		func(c *conf.Conf) { c.Frags = 1025 },
		func(c *conf.Conf) { c.Frags = math.MaxInt },
		func(c *conf.Conf) { c.Frags = math.MinInt },
		func(c *conf.Conf) { c.Spine = -1 },
		func(c *conf.Conf) { c.Spine = 2049 },
		func(c *conf.Conf) { c.Globals = 9 },
		func(c *conf.Conf) { c.Threads = 0 },
		func(c *conf.Conf) { c.Locals = 9 },
		func(c *conf.Conf) { c.Cache = -1 },
		func(c *conf.Conf) { c.Threads, c.Cache = 13, 8 },
		func(c *conf.Conf) { c.Stack = 0 },
		func(c *conf.Conf) { c.Low = 101 },
		func(c *conf.Conf) { c.Shapes = nil },
		func(c *conf.Conf) { c.Shapes = append(c.Shapes, shape.Shape{}) },
		func(c *conf.Conf) { c.Shapes[1].Refs = nil },
		func(c *conf.Conf) { c.Shapes[7].Refs = make([]bool, 2) },
		func(c *conf.Conf) { c.Shapes[4].Refs = make([]bool, 41) },
	} {
		c := mixed()
		set(&c)
		all = append(all, c)
	}
	return all
}

func TestOddConfs(t *testing.T) {
	for _, c := range odd() {
		for _, kind := range []int{-1, 0, 1, 2, 3, 8} {
			for _, got := range [][]int{nil, {}, {0}, {0, 1}, {0, 0}, {-1}, {math.MaxInt}} {
				objectRefused(t, c, kind, got, api.ErrRange)
				for _, n := range []int{-1, 0, 8, 9, 513} {
					arrayRefused(t, c, kind, n, got, 800, api.ErrRange)
				}
			}
		}
	}
}

func TestNoFragment(t *testing.T) {
	c := mixed()
	for _, bad := range append(farOff(), 100, 101, 800, 1024) {
		for place := range 6 {
			got := row(10, 6)
			got[place] = bad
			objectRefused(t, c, 4, got, api.ErrRange)
			arrayRefused(t, c, 3, 40, got, 800, api.ErrRange)
			// Ahead of all that may be wrong besides.
			objectRefused(t, c, 9, got, api.ErrRange)
			objectRefused(t, c, 1, got, api.ErrRange)
			objectRefused(t, c, 0, got, api.ErrRange)
			arrayRefused(t, c, 9, -1, got, -1, api.ErrRange)
			arrayRefused(t, c, 1, 513, got, -1, api.ErrRange)
			arrayRefused(t, c, 1, 4, got, -1, api.ErrRange)
		}
	}
}

func TestNoKind(t *testing.T) {
	c := mixed()
	for _, kind := range append(farOff(), 8, 9, 100) {
		// Ahead of a length, of a count and of twins that may not be.
		for _, got := range [][]int{nil, {0}, {1, 0}, {1, 1}, {99}} {
			objectRefused(t, c, kind, got, api.ErrKind)
			for _, n := range append(farOff(), 0, 5, 512, 513) {
				arrayRefused(t, c, kind, n, got, -1, api.ErrKind)
			}
		}
	}
	for _, got := range [][]int{nil, {0}, {1, 0}, {1, 1}} {
		objectRefused(t, c, 1, got, api.ErrKind)
		for _, n := range append(farOff(), 0, 1, 512, 513) {
			arrayRefused(t, c, 0, n, got, -1, api.ErrKind)
			arrayRefused(t, c, 2, n, got, 800, api.ErrKind)
		}
	}
}

func TestNoLength(t *testing.T) {
	c := mixed()
	for _, n := range append(farOff(), 513, 514, 520, 1024) {
		for _, got := range [][]int{nil, {0}, {3, 3}, row(0, 6), row(0, 65), row(0, 66)} {
			arrayRefused(t, c, 1, n, got, 800, api.ErrIndex)
			arrayRefused(t, c, 3, n, got, -1, api.ErrIndex)
		}
	}
}

func TestWrongCounts(t *testing.T) {
	c := mixed()
	for kind, s := range c.Shapes {
		lengths := []int{0}
		if s.Array {
			lengths = []int{0, 1, 8, 9, 32, 33, 40, 41, 512}
		}
		for _, n := range lengths {
			for count := range 80 {
				got := row(1, count)
				switch {
				case count == shape.Size(s, n):
				case s.Array:
					arrayRefused(t, c, kind, n, got, 800, api.ErrForm)
				default:
					objectRefused(t, c, kind, got, api.ErrForm)
				}
			}
		}
	}
}

func TestTwins(t *testing.T) {
	c := mixed()
	for _, n := range []int{1, 9, 32, 40, 500} {
		size := 1 + (n+7)/8
		for one := range size {
			for two := range one {
				got := row(5, size)
				got[one] = got[two]
				arrayRefused(t, c, 1, n, got, 800, api.ErrForm)
				got = row(5, size)
				got[two] = got[one]
				arrayRefused(t, c, 3, n, got, 800, api.ErrForm)
				if size == 6 {
					objectRefused(t, c, 4, got, api.ErrForm)
				}
			}
		}
	}
}

func TestNothingHandedInIsChanged(t *testing.T) {
	c := mixed()
	room := []int{9, 8, 7, 6, 5, 4, 77, 78, 79}
	before := slices.Clone(room)
	mine := conf.Copy(c)
	for range 2 {
		objectHolds(t, c, 4, room[:6])
		arrayHolds(t, c, 1, 40, room[:6], 800)
		arrayHolds(t, c, 3, 32, room[:5], 800)
		objectRefused(t, c, 4, room[:5], api.ErrForm)
		arrayRefused(t, c, 1, 40, room[:6], -1, api.ErrForm)
	}
	if !slices.Equal(room, before) {
		t.Errorf("P12.3: the fragments handed in are %v now", room)
	}
	for kind, s := range c.Shapes {
		if s.Array != mine.Shapes[kind].Array || !slices.Equal(s.Refs, mine.Shapes[kind].Refs) {
			t.Errorf("P12.3: the shape %d handed in is %v now", kind, s)
		}
	}
}

func TestNothingHandedInIsKept(t *testing.T) {
	c := mixed()
	got := []int{9, 8, 7, 6, 5, 4}
	object, _ := Object(c, 4, got)
	array, _ := Array(c, 1, 40, got, 800)
	wantObject, wantArray := slices.Clone(object), slices.Clone(array)
	for i := range got {
		got[i] = 50 + i
	}
	for kind := range c.Shapes {
		for k := range c.Shapes[kind].Refs {
			c.Shapes[kind].Refs[k] = !c.Shapes[kind].Refs[k]
		}
	}
	if !same(object, wantObject) || !same(array, wantArray) {
		t.Errorf("P12.3: an answer changes with what was handed in")
	}
	objectHolds(t, c, 4, got)
	arrayHolds(t, c, 1, 40, got, 800)
}

func TestAnswersAreNewMemory(t *testing.T) {
	c := mixed()
	got := []int{9, 8, 7, 6, 5, 4}
	for name, ask := range map[string]func() []Write{
		"Object": func() []Write { l, _ := Object(c, 4, got); return l },
		"Array":  func() []Write { l, _ := Array(c, 1, 40, got, 800); return l },
		"in row": func() []Write { l, _ := Array(c, 1, 40, row(3, 6), 800); return l },
		"inline": func() []Write { l, _ := Array(c, 1, 9, got[:3], 800); return l },
	} {
		first, other := ask(), ask()
		want := slices.Clone(first)
		spoil(first)
		if !same(other, want) {
			t.Errorf("P12.3: %s: what is written into one answer shows in another one", name)
		}
		spoil(other)
		if !same(ask(), want) {
			t.Errorf("P12.3: %s: what is written into an answer shows in a later one", name)
		}
	}
}

// spoil writes over a list, and over its spare room.
func spoil(l []Write) {
	l = l[:cap(l)]
	for i := range l {
		l[i] = Write{-1, 99}
	}
}

func TestLongRun(t *testing.T) {
	next := scattered(2026)
	c := mixed()
	for range 20000 {
		kind := next(8)
		s := c.Shapes[kind]
		n := 0
		if s.Array {
			n = next(513)
		}
		size := shape.Size(s, n)
		got := shuffled(100, size, next)
		if next(3) == 0 {
			got = row(next(101-size), size)
		}
		if s.Array {
			length := (n+7)/8 + 2
			arrayHolds(t, c, kind, n, got, 800+next(2)*70+next(71-length))
		} else {
			objectHolds(t, c, kind, got)
		}
	}
}
