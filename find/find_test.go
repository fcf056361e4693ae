package find

import (
	"math"
	"slices"
	"testing"

	"spolia/api"
	"spolia/area"
	"spolia/conf"
	"spolia/mem"
	"spolia/num"
	"spolia/plan"
	"spolia/shape"
)

const none = 0 + 1i // the reference to nothing

// ref is the reference to a fragment.
func ref(frag int) complex128 { return complex(float64(frag+1), 1) }

// whole is a whole number as a word.
func whole(n int) complex128 { return complex(float64(n), 0) }

// top is a head as a word.
func top(kind, mode int) complex128 { return complex(float64(kind), float64(mode)) }

// sized is a conf that may be, with so many of each, and these shapes.
func sized(frags, spine int, shapes ...shape.Shape) conf.Conf {
	return conf.Conf{
		Frags: frags, Spine: spine, Globals: 2, Threads: 2, Locals: 3, Cache: 1, Stack: 9, Low: 1,
		Shapes: shapes,
	}
}

// mixed is a conf with eight kinds: objects and arrays by turns.
func mixed() conf.Conf {
	return sized(100, 70,
		shape.Shape{Refs: []bool{true, false}},
		shape.Shape{Array: true, Refs: []bool{true}},
		shape.Shape{},
		shape.Shape{Array: true, Refs: []bool{false}},
		shape.Shape{Refs: fields(40, 2)},
		shape.Shape{Array: true, Refs: []bool{true}},
		shape.Shape{Refs: fields(7, 1)},
		shape.Shape{Array: true, Refs: []bool{false}},
	)
}

// fields is a list of n fields: numbers, references, both by turns, or as it
// comes.
func fields(n, pattern int) []bool {
	next := scattered(uint64(n))
	l := make([]bool, n)
	for k := range l {
		switch pattern {
		case 1:
			l[k] = true
		case 2:
			l[k] = k%2 == 0
		case 3:
			l[k] = next(2) == 0
		}
	}
	return l
}

// scattered answers numbers below a bound that follow no rule one sees, the
// same ones each time.
func scattered(seed uint64) func(bound int) int {
	return func(bound int) int {
		seed += 0x9E3779B97F4A7C15
		z := (seed ^ seed>>30) * 0xBF58476D1CE4E5B9
		z = (z ^ z>>27) * 0x94D049BB133111EB
		return int((z ^ z>>31) % uint64(bound))
	}
}

// row lists n fragments side by side.
func row(from, n int) []int {
	l := make([]int, n)
	for i := range l {
		l[i] = from + i
	}
	return l
}

// shuffled lists n of so many fragments, in no order.
func shuffled(frags, n int, next func(int) int) []int {
	all := row(0, frags)
	for i := range n {
		k := i + next(frags-i)
		all[i], all[k] = all[k], all[i]
	}
	return all[:n]
}

// layouts lists ways in which n of so many fragments may stand: side by side at
// both ends, with a gap at each place, backwards and in no order.
func layouts(frags, n int) [][]int {
	l := [][]int{row(0, n), row(frags-n, n)}
	for gap := 1; gap < n; gap += 1 + n/10 {
		l = append(l, append(row(0, gap), row(gap+1, n-gap)...))
	}
	back := row(1, n)
	slices.Reverse(back)
	next := scattered(uint64(n) * 77)
	return append(l, back, shuffled(frags, n, next), shuffled(frags, n, next))
}

// inOrder tells whether each is one more than the one ahead, by the first one.
func inOrder(got []int) bool { return slices.Equal(got, row(got[0], len(got))) }

// farOff lists numbers that are no fragment, field or element, some of which
// would wrap to one that is.
func farOff() []int {
	return []int{
		-1, -2, -8, -100, math.MinInt32, math.MinInt, math.MinInt + 1, math.MinInt / 8,
		1<<32 + 1, 1 << 40, math.MaxInt32, math.MaxInt, math.MaxInt - 1, math.MaxInt - 7,
		math.MaxInt / 8, math.MaxInt/8 + 1, math.MaxInt/4 + 1, math.MaxInt/2 + 1,
	}
}

// memory has these words.
func memory(t *testing.T, words []complex128) *mem.Mem {
	t.Helper()
	m, e := mem.New(len(words))
	if e != api.OK {
		t.Fatalf("no memory of %d words: %d", len(words), e)
	}
	for a, w := range words {
		m.Write(a, w)
	}
	return m
}

// junk is a memory as large as c's, with nothing in it that may stand anywhere.
func junk(c conf.Conf) []complex128 {
	words := make([]complex128, area.Words(c))
	for a := range words {
		words[a] = complex(math.NaN(), -3)
	}
	return words
}

// lay writes into words.
func lay(t *testing.T, words []complex128, writes []plan.Write, e api.Errno) {
	t.Helper()
	if e != api.OK {
		t.Fatalf("no plan: %d", e)
	}
	for _, w := range writes {
		words[w.At] = w.W
	}
}

func layObject(t *testing.T, c conf.Conf, words []complex128, kind int, got []int) {
	t.Helper()
	writes, e := plan.Object(c, kind, got)
	lay(t, words, writes, e)
}

func layArray(t *testing.T, c conf.Conf, words []complex128, kind, n int, got []int, at int) {
	t.Helper()
	writes, e := plan.Array(c, kind, n, got, at)
	lay(t, words, writes, e)
}

// ask is what is looked for.
type ask struct {
	array     bool
	head, nth int
}

func (x ask) start(c conf.Conf) *Find {
	if x.array {
		return Elem(c, x.head, x.nth)
	}
	return Field(c, x.head, x.nth)
}

func (x ask) promise() string {
	if x.array {
		return "P13.3"
	}
	return "P13.2"
}

// answer is what a program has to tell at its end, and what it reads on its
// way, a step each. Without any it takes a step that reads nothing.
type answer struct {
	at    int
	isRef bool
	e     api.Errno
	reads []int
}

func wrong(e api.Errno, reads ...int) answer { return answer{at: -1, e: e, reads: reads} }

// underWay asks that a program tells nothing yet.
func underWay(t *testing.T, x ask, f *Find, steps int) {
	t.Helper()
	if f.Done() || f.At() != -1 || f.Ref() || f.Errno() != api.OK || f.Steps() != steps {
		t.Fatalf("P13.4: %v behind %d steps: done %t, at %d, ref %t, error %d, %d steps",
			x, steps, f.Done(), f.At(), f.Ref(), f.Errno(), f.Steps())
	}
}

// isOver asks for all that a program tells at its end.
func isOver(t *testing.T, x ask, f *Find, want answer) {
	t.Helper()
	steps := max(len(want.reads), 1)
	if !f.Done() || f.At() != want.at || f.Ref() != want.isRef || f.Errno() != want.e || f.Steps() != steps {
		t.Fatalf("%s: %v: done %t, at %d, ref %t, error %d, %d steps, not at %d, ref %t, error %d, %d steps",
			x.promise(), x, f.Done(), f.At(), f.Ref(), f.Errno(), f.Steps(), want.at, want.isRef, want.e, steps)
	}
}

// holds steps a program to its end on a memory with these words, and asks that
// each step reads once, writes nothing, and that nothing is done behind it.
func holds(t *testing.T, c conf.Conf, words []complex128, x ask, want answer) {
	t.Helper()
	runs(t, memory(t, words), x.start(c), x, want)
}

func runs(t *testing.T, m *mem.Mem, f *Find, x ask, want answer) {
	t.Helper()
	steps := max(len(want.reads), 1)
	for k := range steps {
		underWay(t, x, f, k)
		before := m.Count()
		if done := f.Step(m); done != (k == steps-1) {
			t.Fatalf("P13.1: %v: step %d: done %t, error %d, of %v", x, k, done, f.Errno(), want)
		}
		if reads := m.Count() - before; reads != min(len(want.reads), 1) {
			t.Fatalf("P13.1: %v: step %d: %d reads", x, k, reads)
		}
	}
	isOver(t, x, f, want)
	for range 2 {
		before := m.Count()
		if !f.Step(m) || m.Count() != before {
			t.Fatalf("P13.1: %v: a step behind the end: %d reads", x, m.Count()-before)
		}
		isOver(t, x, f, want)
	}
}

// readsJust asks that each step reads the word it must, and no other one: all
// others are no good when it is done.
func readsJust(t *testing.T, c conf.Conf, words []complex128, x ask, want answer) {
	t.Helper()
	f := x.start(c)
	m := memory(t, junk(c))
	for k, a := range want.reads {
		underWay(t, x, f, k)
		m.Write(a, words[a])
		f.Step(m)
		m.Write(a, complex(math.NaN(), -3))
	}
	isOver(t, x, f, want)
}

// fieldPlaces lists the words of the fields one behind the other.
func fieldPlaces(n int) [][2]int {
	var l [][2]int
	frag, at := 0, 2
	for range n {
		if at == 8 {
			frag, at = frag+1, 1
		}
		l = append(l, [2]int{frag, at})
		at++
	}
	return l
}

// fieldAnswer is what P13.2 asks for of a field of an object that is as it must
// be.
func fieldAnswer(got []int, isRef bool, place [2]int) answer {
	want := answer{at: 8*got[place[0]] + place[1], isRef: isRef, reads: []int{8*got[0] + 1}}
	if !inOrder(got) {
		for _, frag := range got[:place[0]] {
			want.reads = append(want.reads, 8*frag)
		}
	}
	return want
}

// elemAnswer is what P13.3 asks for of an element of an array that is as it
// must be.
func elemAnswer(n int, got []int, at int, isRef bool, i int) answer {
	data, head := i>>3, 8*got[0]
	want := answer{at: 8*got[1+data] + i&7, isRef: isRef, reads: []int{head + 1, head + 2, head + 3}}
	switch {
	case n <= 32:
		want.reads = append(want.reads, head+4+data)
	case inOrder(got):
		want.reads = append(want.reads, head+4)
	default:
		want.reads = append(want.reads, head+4, at+2+data)
	}
	return want
}

func TestFieldByHand(t *testing.T) {
	c := mixed()
	words := junk(c)
	words[8*9+1], words[8*9], words[8*3], words[8*77], words[8*50] = top(4, 0), ref(3), ref(77), ref(50), ref(0)
	holds(t, c, words, ask{false, 9, 0}, answer{74, true, api.OK, []int{73}})
	holds(t, c, words, ask{false, 9, 5}, answer{79, false, api.OK, []int{73}})
	holds(t, c, words, ask{false, 9, 6}, answer{25, true, api.OK, []int{73, 72}})
	holds(t, c, words, ask{false, 9, 12}, answer{31, true, api.OK, []int{73, 72}})
	holds(t, c, words, ask{false, 9, 13}, answer{617, false, api.OK, []int{73, 72, 24}})
	holds(t, c, words, ask{false, 9, 27}, answer{1, false, api.OK, []int{73, 72, 24, 616, 400}})
	words[8*9+1] = top(4, 1)
	holds(t, c, words, ask{false, 9, 27}, answer{8*13 + 1, false, api.OK, []int{73}})
	holds(t, c, words, ask{false, 9, 39}, answer{8*14 + 6, false, api.OK, []int{73}})
	holds(t, c, words, ask{false, 9, 40}, wrong(api.ErrIndex, 73))
}

func TestElemByHand(t *testing.T) {
	c := mixed()
	words := junk(c)
	words[17], words[18], words[19], words[20], words[21] = top(3, 0), whole(9), whole(0), ref(40), ref(7)
	holds(t, c, words, ask{true, 2, 0}, answer{320, false, api.OK, []int{17, 18, 19, 20}})
	holds(t, c, words, ask{true, 2, 7}, answer{327, false, api.OK, []int{17, 18, 19, 20}})
	holds(t, c, words, ask{true, 2, 8}, answer{56, false, api.OK, []int{17, 18, 19, 21}})
	holds(t, c, words, ask{true, 2, 9}, wrong(api.ErrIndex, 17, 18))
	words[17], words[18], words[19], words[20] = top(5, 0), whole(33), whole(2), ref(95)
	holds(t, c, words, ask{true, 2, 32}, answer{792, true, api.OK, []int{17, 18, 19, 20}})
	words[19], words[20], words[876] = whole(1), whole(870), ref(99)
	holds(t, c, words, ask{true, 2, 32}, answer{792, true, api.OK, []int{17, 18, 19, 20, 876}})
}

func TestEveryField(t *testing.T) {
	for n := range 41 {
		for pattern := range 4 {
			s := shape.Shape{Refs: fields(n, pattern)}
			c := sized(14, 0, shape.Shape{Array: true, Refs: []bool{true}}, s)
			places := fieldPlaces(n)
			for _, got := range layouts(14, shape.Size(s, 0)) {
				words := junk(c)
				layObject(t, c, words, 1, got)
				for k, place := range places {
					want := fieldAnswer(got, s.Refs[k], place)
					holds(t, c, words, ask{false, got[0], k}, want)
					if pattern == 3 {
						readsJust(t, c, words, ask{false, got[0], k}, want)
					}
				}
				for _, k := range []int{-1, n, n + 1, 41} {
					holds(t, c, words, ask{false, got[0], k}, wrong(api.ErrIndex, 8*got[0]+1))
				}
			}
		}
	}
}

func TestEveryElement(t *testing.T) {
	c := sized(67, 70, shape.Shape{Array: true, Refs: []bool{false}}, shape.Shape{}, shape.Shape{Array: true, Refs: []bool{true}})
	for _, n := range []int{0, 1, 7, 8, 9, 16, 17, 31, 32, 33, 40, 41, 100, 511, 512} {
		for j, got := range layouts(67, 1+(n+7)/8) {
			kind, at := (n+j)%2*2, 8*67+j%2*70+j%3
			words := junk(c)
			layArray(t, c, words, kind, n, got, at)
			m := memory(t, words)
			for i := range n {
				x, want := ask{true, got[0], i}, elemAnswer(n, got, at, kind == 2, i)
				runs(t, m, x.start(c), x, want)
				if n < 34 {
					readsJust(t, c, words, x, want)
				}
			}
			for _, i := range append(farOff(), n, n+1, 513) {
				holds(t, c, words, ask{true, got[0], i}, wrong(api.ErrIndex, 8*got[0]+1, 8*got[0]+2))
			}
		}
	}
}

func TestEveryLength(t *testing.T) {
	c := sized(131, 70, shape.Shape{Array: true, Refs: []bool{true}})
	next := scattered(13)
	for n := 1; n <= 512; n++ {
		size := 1 + (n+7)/8
		for _, got := range [][]int{row(131-size, size), shuffled(131, size, next)} {
			at := 8*131 + next(2)*70 + next(70-size)
			words := junk(c)
			layArray(t, c, words, 0, n, got, at)
			for _, i := range []int{0, n / 2, n - 1} {
				x, want := ask{true, got[0], i}, elemAnswer(n, got, at, true, i)
				holds(t, c, words, x, want)
				readsJust(t, c, words, x, want)
				if len(want.reads) > 5 {
					t.Fatalf("P13.5: %v: %d steps", x, len(want.reads))
				}
			}
			holds(t, c, words, ask{true, got[0], n}, wrong(api.ErrIndex, 8*got[0]+1, 8*got[0]+2))
		}
	}
}

func TestInTheGreatestHeap(t *testing.T) {
	c := sized(1024, 2048, shape.Shape{Refs: fields(40, 3)}, shape.Shape{Array: true, Refs: []bool{true}})
	words := junk(c)
	got := []int{1023, 0, 1022, 1, 512, 3}
	layObject(t, c, words, 0, got)
	for k, place := range fieldPlaces(40) {
		holds(t, c, words, ask{false, 1023, k}, fieldAnswer(got, c.Shapes[0].Refs[k], place))
	}
	got = append([]int{4}, row(1024-70, 64)...)
	at := 8*1024 + 2*2048 - 66
	layArray(t, c, words, 1, 512, got, at)
	for _, i := range []int{0, 8, 300, 511} {
		holds(t, c, words, ask{true, 4, i}, elemAnswer(512, got, at, true, i))
	}
}

// odd lists confs that may not be, each by one thing alone, but for the first.
func odd() []conf.Conf {
	all := []conf.Conf{{}}
	for _, set := range []func(c *conf.Conf){
		func(c *conf.Conf) { c.Frags = 3 },
		func(c *conf.Conf) { c.Frags = 1025 },
		func(c *conf.Conf) { c.Frags = math.MaxInt },
		func(c *conf.Conf) { c.Spine = -1 },
		func(c *conf.Conf) { c.Spine = 2049 },
		func(c *conf.Conf) { c.Globals = 9 },
		func(c *conf.Conf) { c.Threads = 0 },
		func(c *conf.Conf) { c.Locals = 9 },
		func(c *conf.Conf) { c.Cache = -1 },
		func(c *conf.Conf) { c.Threads, c.Cache = 13, 8 },
		func(c *conf.Conf) { c.Stack = 0 },
		func(c *conf.Conf) { c.Low = 101 },
		func(c *conf.Conf) { c.Shapes = nil },
		func(c *conf.Conf) { c.Shapes = append(c.Shapes, shape.Shape{}) },
		func(c *conf.Conf) { c.Shapes[1].Refs = nil },
		func(c *conf.Conf) { c.Shapes[7].Refs = make([]bool, 2) },
		func(c *conf.Conf) { c.Shapes[4].Refs = make([]bool, 41) },
	} {
		c := mixed()
		set(&c)
		all = append(all, c)
	}
	return all
}

// asks lists both programs with each head and each number.
func asks(heads, nths []int) []ask {
	var l []ask
	for _, head := range heads {
		for _, nth := range nths {
			l = append(l, ask{false, head, nth}, ask{true, head, nth})
		}
	}
	return l
}

func TestOddConfs(t *testing.T) {
	words := junk(mixed())
	layObject(t, mixed(), words, 0, []int{0})
	layArray(t, mixed(), words, 1, 9, []int{1, 2, 3}, -1)
	for _, c := range odd() {
		for _, x := range asks([]int{0, 1, 99, -1, 100, math.MaxInt, math.MinInt}, []int{0, 1, -1, 600}) {
			holds(t, c, words, x, wrong(api.ErrCorrupt))
			holds(t, c, nil, x, wrong(api.ErrCorrupt))
		}
	}
}

func TestNoFragment(t *testing.T) {
	c := mixed()
	words := junk(c)
	for frag := range 100 {
		layObject(t, c, words, 0, []int{frag})
	}
	m := memory(t, words)
	for _, x := range asks(append(farOff(), 100, 101, 800, 1024), append(farOff(), 0, 1, 39)) {
		runs(t, m, x.start(c), x, wrong(api.ErrCorrupt))
	}
}

func TestNoField(t *testing.T) {
	c := mixed()
	for kind, s := range c.Shapes {
		words := junk(c)
		words[8*6+1] = top(kind, 0)
		for _, k := range append(farOff(), len(s.Refs), 40, 41, 600) {
			want := wrong(api.ErrIndex, 49)
			if s.Array {
				want = wrong(api.ErrKind, 49)
			}
			holds(t, c, words, ask{false, 6, k}, want)
		}
	}
}

func TestOfTheOtherKind(t *testing.T) {
	c := mixed()
	for kind, s := range c.Shapes {
		for _, mode := range []int{0, 1, 2, 3, 1 << 40} {
			for _, nth := range append(farOff(), 0, 1, 5) {
				words := junk(c)
				words[8*6+1] = top(kind, mode)
				// Ahead of a mode that may not be, and of a place that is not.
				holds(t, c, words, ask{!s.Array, 6, nth}, wrong(api.ErrKind, 49))
			}
		}
	}
}

// minus is minus nought, which a literal can't be.
func minus() float64 { return math.Copysign(0, -1) }

// notWhole lists words that are near to whole numbers and are none.
func notWhole(n int) []complex128 {
	x := float64(n)
	return []complex128{
		complex(x, minus()), complex(x, 1), complex(x, -1), complex(x, math.NaN()), complex(x, math.Inf(1)),
		complex(x+0.5, 0), complex(math.Nextafter(x, 1000), 0), complex(math.Nextafter(x, -1000), 0),
		complex(-x-1, 0), complex(minus(), 0), complex(math.NaN(), 0), complex(math.Inf(1), 0), complex(math.Inf(-1), 0),
		complex(1<<53, 0), complex(1<<62, 0), complex(1<<63, 0), complex(1e300, 0), complex(-1e300, 0),
	}
}

// notRef lists words that are no reference to a fragment of a heap of so many.
func notRef(frags int) []complex128 {
	x := float64(frags)
	return []complex128{
		none, 0, complex(1, 0), complex(1, minus()), complex(1, -1), complex(1, 2), complex(1, 0.5), complex(1, math.NaN()),
		complex(minus(), 1), complex(-1, 1), complex(0.5, 1), complex(1.5, 1), complex(math.NaN(), 1), complex(math.Inf(1), 1),
		complex(x+1, 1), complex(x+2, 1), complex(1<<32+1, 1), complex(1<<40, 1), complex(1<<40+1, 1), complex(1<<40+2, 1),
		complex(1<<60, 1), complex(1<<61, 1), complex(1<<63, 1), complex(1e300, 1), complex(-1e300, 1), complex(math.Inf(-1), 1),
	}
}

func TestWrongHeads(t *testing.T) {
	c := mixed()
	words := junk(c)
	heads := []complex128{
		top(8, 0), top(8, 1), top(9, 0), top(1<<40, 0), top(1<<32, 0), top(-1, 0), top(0, -1), top(1, -1),
		complex(0.5, 0), complex(0, 0.5), complex(0, minus()), complex(minus(), 0), complex(1, minus()), complex(2, minus()),
		complex(1<<40+1, 0), complex(0, 1<<40+1), complex(1, 1<<40+1), complex(1<<62, 0), complex(1e300, 0), complex(0, 1e300),
		complex(math.NaN(), 0), complex(0, math.NaN()), complex(1, math.NaN()), complex(math.Inf(1), 0), complex(0, math.Inf(1)),
		complex(1, math.Inf(1)), complex(math.Inf(-1), 0),
	}
	for _, w := range heads {
		words[49] = w
		for _, x := range asks([]int{6}, append(farOff(), 0, 1, 5)) {
			holds(t, c, words, x, wrong(api.ErrCorrupt, 49))
		}
	}
}

func TestWrongModesOfHeads(t *testing.T) {
	c := mixed()
	words := junk(c)
	for kind, s := range c.Shapes {
		for _, mode := range []int{1, 2, 3, 4, 1 << 32, 1 << 40} {
			if mode == 1 && !s.Array {
				continue
			}
			words[49] = top(kind, mode)
			for _, nth := range append(farOff(), 0, 1, 5) {
				holds(t, c, words, ask{s.Array, 6, nth}, wrong(api.ErrCorrupt, 49))
			}
		}
	}
}

func TestWrongLengths(t *testing.T) {
	c := mixed()
	words := junk(c)
	words[49], words[51], words[52] = top(1, 0), whole(0), ref(20)
	list := append(notWhole(8), whole(-1), whole(513), whole(514), whole(1024), whole(1<<32+8), whole(-1<<53), none, ref(7))
	for _, w := range list {
		words[50] = w
		for _, i := range append(farOff(), 0, 5, 7, 600) {
			holds(t, c, words, ask{true, 6, i}, wrong(api.ErrCorrupt, 49, 50))
		}
	}
}

func TestWrongModes(t *testing.T) {
	c := mixed()
	words := junk(c)
	words[49] = top(1, 0)
	list := append(notWhole(0), notWhole(1)...)
	list = append(append(list, notWhole(2)...), whole(-1), whole(3), whole(4), whole(1<<32), whole(1<<32+1), none, ref(0))
	for _, n := range []int{1, 8, 9, 31, 32, 33, 34, 64, 65, 512} {
		words[50] = whole(n)
		for _, w := range list {
			words[51] = w
			holds(t, c, words, ask{true, 6, n - 1}, wrong(api.ErrCorrupt, 49, 50, 51))
		}
		bad := []int{0}
		if n <= 32 {
			bad = []int{1, 2}
		}
		for _, mode := range bad {
			words[51] = whole(mode)
			for _, i := range []int{0, n - 1} {
				holds(t, c, words, ask{true, 6, i}, wrong(api.ErrCorrupt, 49, 50, 51))
			}
		}
	}
}

func TestWrongLinks(t *testing.T) {
	c := mixed()
	got := []int{9, 3, 77, 50, 0, 30}
	for nth, frag := range got[:5] {
		for _, w := range notRef(100) {
			words := junk(c)
			layObject(t, c, words, 4, got)
			words[8*frag] = w
			for k, place := range fieldPlaces(40) {
				want := fieldAnswer(got, k%2 == 0, place)
				if place[0] > nth {
					want = wrong(api.ErrCorrupt, want.reads[:nth+2]...)
				}
				holds(t, c, words, ask{false, 9, k}, want)
			}
		}
	}
}

func TestLinksThatGoRound(t *testing.T) {
	c := mixed()
	words := junk(c)
	words[49], words[48] = top(4, 0), ref(6)
	holds(t, c, words, ask{false, 6, 39}, answer{8*6 + 6, false, api.OK, []int{49, 48, 48, 48, 48, 48}})
	words[48], words[800-8] = ref(99), ref(6)
	holds(t, c, words, ask{false, 6, 39}, answer{8*99 + 6, false, api.OK, []int{49, 48, 792, 48, 792, 48}})
}

func TestFieldsSideBySideAtTheEnd(t *testing.T) {
	c := mixed()
	for head := 90; head < 100; head++ {
		words := junk(c)
		words[8*head+1] = top(4, 1)
		for k, place := range fieldPlaces(40) {
			want := fieldAnswer(row(head, 6), k%2 == 0, place)
			if head+place[0] > 99 {
				want = wrong(api.ErrCorrupt, 8*head+1)
			}
			holds(t, c, words, ask{false, head, k}, want)
		}
	}
}

func TestWrongReferencesInSentinels(t *testing.T) {
	c := mixed()
	got := []int{9, 3, 77, 50, 0}
	for data := range 4 {
		for _, w := range notRef(100) {
			words := junk(c)
			layArray(t, c, words, 5, 32, got, -1)
			words[8*9+4+data] = w
			for i := range 32 {
				want := elemAnswer(32, got, -1, true, i)
				if i/8 == data {
					want = wrong(api.ErrCorrupt, want.reads...)
				}
				holds(t, c, words, ask{true, 9, i}, want)
			}
		}
	}
}

func TestWrongRows(t *testing.T) {
	c := mixed()
	words := junk(c)
	layArray(t, c, words, 5, 512, row(9, 65), -1)
	for _, w := range notRef(100) {
		words[8*9+4] = w
		for _, i := range []int{0, 7, 8, 200, 511} {
			holds(t, c, words, ask{true, 9, i}, wrong(api.ErrCorrupt, 73, 74, 75, 76))
		}
	}
	for first := range 100 {
		words[8*9+4] = ref(first)
		m := memory(t, words)
		for i := range 512 {
			want := answer{8*(first+i/8) + i%8, true, api.OK, []int{73, 74, 75, 76}}
			if first+i/8 > 99 {
				want = wrong(api.ErrCorrupt, 73, 74, 75, 76)
			}
			x := ask{true, 9, i}
			runs(t, m, x.start(c), x, want)
		}
	}
}

func TestWrongSpines(t *testing.T) {
	c := mixed()
	got := []int{9, 3, 77, 50, 0, 30, 31, 36}
	spined := junk(c)
	layArray(t, c, spined, 1, 50, got, 860)
	list := append(notWhole(860), whole(-1), whole(-860), whole(942), whole(943), whole(1<<32+860), none, ref(3), ref(858))
	for _, w := range list {
		words := slices.Clone(spined)
		words[8*9+4] = w
		for _, i := range []int{0, 8, 49} {
			holds(t, c, words, ask{true, 9, i}, wrong(api.ErrCorrupt, 73, 74, 75, 76))
		}
	}
	for data := range 7 {
		for _, w := range notRef(100) {
			words := slices.Clone(spined)
			words[862+data] = w
			for _, i := range []int{0, 7, 8, 16, 24, 31, 32, 40, 48, 49} {
				want := elemAnswer(50, got, 860, true, i)
				if i/8 == data {
					want = wrong(api.ErrCorrupt, want.reads...)
				}
				holds(t, c, words, ask{true, 9, i}, want)
			}
		}
	}
}

func TestSpinesAtEveryAddress(t *testing.T) {
	c := mixed()
	for at := range 942 {
		for _, i := range []int{0, 8, 17, 49} {
			entry := at + 2 + i/8
			x, want := ask{true, 9, i}, answer{8*5 + i%8, false, api.OK, []int{73, 74, 75, 76, entry}}
			words := junk(c)
			if entry < 942 {
				words[entry] = ref(5)
			} else {
				want = wrong(api.ErrCorrupt, want.reads...)
			}
			if entry/8 == 9 {
				continue
			}
			words[73], words[74], words[75], words[76] = top(3, 0), whole(50), whole(1), whole(at)
			holds(t, c, words, x, want)
		}
	}
}

func TestMemoryThatIsTooSmall(t *testing.T) {
	c := mixed()
	words := junk(c)
	object, array := []int{9, 3, 77, 50, 0, 30}, []int{11, 4, 76, 51, 1, 31}
	layObject(t, c, words, 4, object)
	layArray(t, c, words, 1, 40, array, 860)
	for size := range len(words) {
		checkSmall(t, c, words[:size], ask{false, 9, 39}, fieldAnswer(object, false, [2]int{5, 6}))
		checkSmall(t, c, words[:size], ask{true, 11, 39}, elemAnswer(40, array, 860, true, 39))
	}
}

// checkSmall asks that it ends at the first word that is not there: with what
// it reads it ends well, whether there is a word where it points or not.
func checkSmall(t *testing.T, c conf.Conf, words []complex128, x ask, want answer) {
	t.Helper()
	for k, a := range want.reads {
		if a >= len(words) {
			want = wrong(api.ErrCorrupt, want.reads[:k+1]...)
			break
		}
	}
	holds(t, c, words, x, want)
}

func TestNothingHandedInIsChanged(t *testing.T) {
	c := mixed()
	mine := conf.Copy(c)
	words := junk(c)
	layObject(t, c, words, 4, []int{9, 3, 77, 50, 0, 30})
	layArray(t, c, words, 1, 40, []int{11, 4, 76, 51, 1, 31}, 860)
	m := memory(t, words)
	for _, x := range asks([]int{9, 11, 40}, row(-1, 50)) {
		f := x.start(c)
		for !f.Step(m) {
		}
	}
	for a, w := range words {
		if !num.Same(m.Peek(a), w) {
			t.Fatalf("P13.1: the word %d is written", a)
		}
	}
	for kind, s := range c.Shapes {
		if s.Array != mine.Shapes[kind].Array || !slices.Equal(s.Refs, mine.Shapes[kind].Refs) {
			t.Errorf("P0.4: the shape %d handed in is %v now", kind, s)
		}
	}
}

func TestNothingHandedInIsKept(t *testing.T) {
	words := junk(mixed())
	object, array := []int{9, 3, 77, 50, 0, 30}, []int{11, 4, 76, 51, 1, 31}
	layObject(t, mixed(), words, 4, object)
	layArray(t, mixed(), words, 1, 40, array, 860)
	m := memory(t, words)
	c := mixed()
	field, elem := ask{false, 9, 38}, ask{true, 11, 39}
	f, g := field.start(c), elem.start(c)
	for kind := range c.Shapes {
		for k := range c.Shapes[kind].Refs {
			c.Shapes[kind].Refs[k] = !c.Shapes[kind].Refs[k]
		}
		c.Shapes[kind] = shape.Shape{Array: !c.Shapes[kind].Array}
	}
	runs(t, m, f, field, fieldAnswer(object, true, [2]int{5, 5}))
	runs(t, m, g, elem, elemAnswer(40, array, 860, true, 39))
}

func TestProgramsByTurns(t *testing.T) {
	c := mixed()
	words := junk(c)
	object, array := []int{9, 3, 77, 50, 0, 30}, []int{11, 4, 76, 51, 1, 31}
	layObject(t, c, words, 4, object)
	layArray(t, c, words, 1, 40, array, 860)
	m := memory(t, words)
	var programs []*Find
	all := asks([]int{9, 11}, row(0, 40))
	for _, x := range all {
		programs = append(programs, x.start(c))
	}
	next := scattered(5)
	for range 20 * len(all) {
		programs[next(len(all))].Step(m)
	}
	for i, x := range all {
		for !programs[i].Step(m) {
		}
		isOver(t, x, programs[i], expected(c, words, x))
	}
}

// expected is what the promises ask for of any words whatever, each one looked
// for among all that it may be.
func expected(c conf.Conf, words []complex128, x ask) answer {
	bad := func(e api.Errno, reads []int) answer { return wrong(e, reads...) }
	var reads []int
	if conf.Check(c) != api.OK || x.head < 0 || x.head >= c.Frags {
		return bad(api.ErrCorrupt, nil)
	}
	read := func(a int) complex128 {
		reads = append(reads, a)
		if a >= len(words) {
			return complex(math.NaN(), 0)
		}
		return words[a]
	}
	first := read(8*x.head + 1)
	kind := amongst(len(c.Shapes), complex(real(first), 0), whole)
	upper := imag(first)
	if kind < 0 || upper != math.Trunc(upper) || math.Signbit(upper) || upper > 1<<40 {
		return bad(api.ErrCorrupt, reads)
	}
	s := c.Shapes[kind]
	if s.Array != x.array {
		return bad(api.ErrKind, reads)
	}
	if upper > 1 || s.Array && upper == 1 {
		return bad(api.ErrCorrupt, reads)
	}
	if !s.Array {
		if x.nth < 0 || x.nth >= len(s.Refs) {
			return bad(api.ErrIndex, reads)
		}
		place, frag := fieldPlaces(x.nth + 1)[x.nth], x.head
		for range place[0] {
			if upper == 1 {
				frag++
				continue
			}
			if frag = amongst(c.Frags, read(8*frag), ref); frag < 0 {
				return bad(api.ErrCorrupt, reads)
			}
		}
		if frag >= c.Frags {
			return bad(api.ErrCorrupt, reads)
		}
		return answer{8*frag + place[1], s.Refs[x.nth], api.OK, reads}
	}
	frag, e := expectedData(c, x, read)
	if e != api.OK {
		return bad(e, reads)
	}
	return answer{8*frag + x.nth%8, s.Refs[0], api.OK, reads}
}

// expectedData is the data fragment of an element, by the words behind the
// head.
func expectedData(c conf.Conf, x ask, read func(int) complex128) (int, api.Errno) {
	n := amongst(513, read(8*x.head+2), whole)
	if n < 0 {
		return 0, api.ErrCorrupt
	}
	if x.nth < 0 || x.nth >= n {
		return 0, api.ErrIndex
	}
	mode := amongst(3, read(8*x.head+3), whole)
	if mode < 0 || n > 32 && mode == 0 || n <= 32 && mode > 0 {
		return 0, api.ErrCorrupt
	}
	frag := -1
	switch mode {
	case 0:
		frag = amongst(c.Frags, read(8*x.head+4+x.nth/8), ref)
	case 1:
		at := amongst(area.Words(c), read(8*x.head+4), whole)
		if at >= 0 {
			frag = amongst(c.Frags, read(at+2+x.nth/8), ref)
		}
	case 2:
		frag = amongst(c.Frags, read(8*x.head+4), ref)
		if frag >= 0 {
			frag += x.nth / 8
		}
	}
	if frag < 0 || frag >= c.Frags {
		return 0, api.ErrCorrupt
	}
	return frag, api.OK
}

// amongst looks for the number below count whose word w is; -1, if there is
// none.
func amongst(count int, w complex128, as func(int) complex128) int {
	for n := range count {
		if num.Same(as(n), w) {
			return n
		}
	}
	return -1
}

// likely is a word that stands often where a program reads.
func likely(next func(int) int) complex128 {
	switch next(12) {
	case 0:
		return none
	case 1:
		return whole(next(44) - 1)
	case 2:
		return whole(next(515) - 1)
	case 3, 4:
		return whole(next(4))
	case 5, 6:
		return top(next(5), next(3))
	case 7:
		return complex(float64(next(4)), minus())
	}
	return ref(next(7))
}

func TestAnyWords(t *testing.T) {
	next := scattered(2026)
	c := sized(6, 8, shape.Shape{Refs: fields(20, 3)}, shape.Shape{Array: true, Refs: []bool{true}},
		shape.Shape{Refs: []bool{false, true}}, shape.Shape{Array: true, Refs: []bool{false}})
	seen := map[string]int{}
	for range 30000 {
		words := make([]complex128, area.Words(c)-next(10)/9*next(30))
		for a := range words {
			words[a] = likely(next)
		}
		x := ask{next(2) == 0, next(8) - 1, next(22) - 1}
		if x.array && next(2) == 0 && x.head >= 0 && 8*x.head+4 < len(words) {
			at := 8 * x.head
			words[at+1], words[at+2], words[at+3] = top(1+2*next(2), 0), whole(22+next(24)), whole(next(3))
			x.nth = next(44) - 1
		}
		want := expected(c, words, x)
		holds(t, c, words, x, want)
		seen[x.promise()+" "+string(rune('a'+want.e))+string(rune('0'+len(want.reads)))]++
	}
	// So that no way to end is left out: 9 of a field, 10 of an element.
	if len(seen) < 19 {
		t.Errorf("only %d ways to end: %v", len(seen), seen)
	}
}
