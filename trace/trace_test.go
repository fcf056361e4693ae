package trace

import (
	"math"
	"reflect"
	"slices"
	"testing"

	"spolia/api"
	"spolia/area"
	"spolia/conf"
	"spolia/mem"
	"spolia/num"
	"spolia/plan"
	"spolia/shade"
	"spolia/shape"
)

const none = 0 + 1i // the reference to nothing

// ref is the reference to a fragment.
func ref(frag int) complex128 { return complex(float64(frag+1), 1) }

// whole is a whole number as a word.
func whole(n int) complex128 { return complex(float64(n), 0) }

// top is a head as a word.
func top(kind, mode int) complex128 { return complex(float64(kind), float64(mode)) }

// trash is a word that may stand nowhere.
func trash() complex128 { return complex(math.NaN(), -3) }

// minus is minus nought, which a literal can't be.
func minus() float64 { return math.Copysign(0, -1) }

// sized is a conf that may be, with so many of each, and these shapes.
func sized(frags, spine int, shapes ...shape.Shape) conf.Conf {
	return conf.Conf{
		Frags: frags, Spine: spine, Globals: 2, Threads: 2, Locals: 3, Cache: 1, Stack: 9, Low: 1,
		Shapes: shapes,
	}
}

// The kinds of mixed.
const (
	pairs   = 0
	refsOf  = 1 // arrays
	empty   = 2
	numsOf  = 3 // arrays
	turns   = 4 // 40 fields
	others  = 5 // arrays of references, too
	seven   = 6
	fifteen = 7 // numbers
)

func mixed() conf.Conf {
	return sized(100, 70,
		shape.Shape{Refs: []bool{true, false}},
		shape.Shape{Array: true, Refs: []bool{true}},
		shape.Shape{},
		shape.Shape{Array: true, Refs: []bool{false}},
		shape.Shape{Refs: fields(40, 2)},
		shape.Shape{Array: true, Refs: []bool{true}},
		shape.Shape{Refs: fields(7, 1)},
		shape.Shape{Refs: fields(15, 0)},
	)
}

// fields is a list of n fields: numbers, references, both by turns, or as it
// comes.
func fields(n, pattern int) []bool {
	next := scattered(uint64(n))
	l := make([]bool, n)
	for k := range l {
		switch pattern {
		case 1:
			l[k] = true
		case 2:
			l[k] = k%2 == 0
		case 3:
			l[k] = next(2) == 0
		}
	}
	return l
}

// scattered answers numbers below a bound that follow no rule one sees, the
// same ones each time.
func scattered(seed uint64) func(bound int) int {
	return func(bound int) int {
		seed += 0x9E3779B97F4A7C15
		z := (seed ^ seed>>30) * 0xBF58476D1CE4E5B9
		z = (z ^ z>>27) * 0x94D049BB133111EB
		return int((z ^ z>>31) % uint64(bound))
	}
}

// row lists n fragments side by side.
func row(from, n int) []int {
	l := make([]int, n)
	for i := range l {
		l[i] = from + i
	}
	return l
}

// shuffled lists n of so many fragments, in no order.
func shuffled(frags, n int, next func(int) int) []int {
	all := row(0, frags)
	for i := range n {
		k := i + next(frags-i)
		all[i], all[k] = all[k], all[i]
	}
	return all[:n]
}

// ways lists how n of so many fragments may stand: side by side at both ends,
// with a gap, backwards and in no order.
func ways(frags, n int) [][]int {
	gap := n/2 + n%2
	back := row(1, n)
	slices.Reverse(back)
	return [][]int{
		row(0, n), row(frags-n, n), append(row(0, gap), row(gap+1, n-gap)...), back,
		shuffled(frags, n, scattered(uint64(n)*77)),
	}
}

func inOrder(got []int) bool { return slices.Equal(got, row(got[0], len(got))) }

// farOff lists numbers that are no fragment, some of which would wrap to one
// that is.
func farOff() []int {
	return []int{
		-1, -2, -8, -100, math.MinInt32, math.MinInt, math.MinInt + 1, math.MinInt / 8,
		1<<32 + 1, 1 << 40, math.MaxInt32, math.MaxInt, math.MaxInt - 1, math.MaxInt - 7,
		math.MaxInt / 8, math.MaxInt/8 + 1, math.MaxInt/4 + 1, math.MaxInt/2 + 1,
	}
}

// memory has these words.
func memory(t *testing.T, words []complex128) *mem.Mem {
	t.Helper()
	m, e := mem.New(len(words))
	if e != api.OK {
		t.Fatalf("no memory of %d words: %d", len(words), e)
	}
	for a, w := range words {
		m.Write(a, w)
	}
	return m
}

// junk is a memory as large as c's, with nothing in it that may stand anywhere.
func junk(c conf.Conf) []complex128 { return slices.Repeat([]complex128{trash()}, area.Words(c)) }

// heads is a shade of so many fragments, all of them heads and white.
func heads(t *testing.T, frags int, sense bool) *shade.Shade {
	t.Helper()
	s, e := shade.New(frags, api.MaxStack)
	if e != api.OK {
		t.Fatalf("no shade of %d: %d", frags, e)
	}
	for i := range frags {
		s.Table().Set(i, api.Used, true, !sense)
	}
	return s
}

func lay(t *testing.T, words []complex128, writes []plan.Write, e api.Errno) {
	t.Helper()
	if e != api.OK {
		t.Fatalf("no plan: %d", e)
	}
	for _, w := range writes {
		words[w.At] = w.W
	}
}

func layObject(t *testing.T, c conf.Conf, words []complex128, kind int, got []int) {
	t.Helper()
	writes, e := plan.Object(c, kind, got)
	lay(t, words, writes, e)
}

func layArray(t *testing.T, c conf.Conf, words []complex128, kind, n int, got []int, at int) {
	t.Helper()
	writes, e := plan.Array(c, kind, n, got, at)
	lay(t, words, writes, e)
}

// access is what a step does: it reads a word, makes a fragment grey, or a part
// black.
type access struct {
	how byte // r, g, p
	n   int
}

// course is all that a program does, a step each, and what it tells at its end.
// Without any access it takes a step that has none.
type course struct {
	did []access
	e   api.Errno
}

func (x *course) read(a int) { x.did = append(x.did, access{'r', a}) }
func (x *course) grey(i int) { x.did = append(x.did, access{'g', i}) }
func (x *course) part(i int) { x.did = append(x.did, access{'p', i}) }

// spoilt is the course that ends with its access nth, a read of what may not
// stand there.
func (x course) spoilt(nth int) course { return course{x.did[:nth+1], api.ErrCorrupt} }

// slot is what is done of a slot in which there is what may stand there.
func (x *course) slot(a int, w complex128) {
	x.read(a)
	if !num.Same(w, none) {
		x.grey(int(real(w)) - 1)
	}
}

// fieldPlaces lists the words of the fields one behind the other.
func fieldPlaces(n int) [][2]int {
	var l [][2]int
	frag, at := 0, 2
	for range n {
		if at == 8 {
			frag, at = frag+1, 1
		}
		l = append(l, [2]int{frag, at})
		at++
	}
	return l
}

// objectCourse is what P16.2 asks for of an object that is as it must be.
func objectCourse(words []complex128, refs []bool, got []int) course {
	var x course
	x.read(8*got[0] + 1)
	places := fieldPlaces(len(refs))
	for nth, frag := range got {
		if nth > 0 {
			x.read(8 * got[nth-1])
			x.part(frag)
		}
		for k, place := range places {
			if a := 8*frag + place[1]; place[0] == nth && refs[k] {
				x.slot(a, words[a])
			}
		}
	}
	return x
}

// arrayCourse is what P16.3 asks for of an array that is as it must be.
func arrayCourse(words []complex128, isRef bool, n int, got []int, at int) course {
	var x course
	head := 8 * got[0]
	x.read(head + 1)
	x.read(head + 2)
	if n > 0 {
		x.read(head + 3)
	}
	if n > 32 {
		x.read(head + 4)
	}
	for j, frag := range got[1:] {
		switch {
		case n <= 32:
			x.read(head + 4 + j)
		case !inOrder(got):
			x.read(at + 2 + j)
		}
		x.part(frag)
		for i := 8 * j; isRef && i < n && i < 8*j+8; i++ {
			x.slot(8*frag+i%8, words[8*frag+i%8])
		}
	}
	return x
}

// underWay asks that a program tells nothing yet.
func underWay(t *testing.T, x *Trace, steps int) {
	t.Helper()
	if x.Done() || x.Errno() != api.OK || x.Steps() != steps {
		t.Fatalf("P16.1: behind %d steps: done %t, error %d, %d steps", steps, x.Done(), x.Errno(), x.Steps())
	}
}

// isOver asks for all that a program tells at its end, and that nothing is done
// behind it.
func isOver(t *testing.T, x *Trace, m *mem.Mem, s *shade.Shade, want course) {
	t.Helper()
	steps := max(len(want.did), 1)
	for range 3 {
		if !x.Done() || x.Errno() != want.e || x.Steps() != steps {
			t.Fatalf("P16.1: done %t, error %d, %d steps, not error %d, %d steps",
				x.Done(), x.Errno(), x.Steps(), want.e, steps)
		}
		reads, shades := m.Count(), s.Count()
		if !x.Step(m, s) || m.Count() != reads || s.Count() != shades {
			t.Fatalf("P16.1: a step behind the end: %d reads, %d of shade", m.Count()-reads, s.Count()-shades)
		}
	}
}

// holds asks that each step does just what it must: the word that it has to read
// is the only one that is any good, and all fragments are white heads ahead of
// it, so that each one that it touches is to be seen.
func holds(t *testing.T, c conf.Conf, words []complex128, head int, want course) {
	t.Helper()
	sense := len(want.did)%2 == 0
	x := New(c, head, sense)
	m := memory(t, slices.Repeat([]complex128{trash()}, len(words)))
	s := heads(t, max(c.Frags, 0), sense)
	for k, a := range want.did {
		underWay(t, x, k)
		if a.how == 'r' && a.n < len(words) {
			m.Write(a.n, words[a.n])
		}
		reads, shades := m.Count(), s.Count()
		if done := x.Step(m, s); done != (k == len(want.did)-1) {
			t.Fatalf("P16.1: step %d, %c%d: done %t, error %d, of %v", k, a.how, a.n, done, x.Errno(), want)
		}
		got := touch{m.Count() - reads, s.Count() - shades, s.Len(), blacks(s, sense)}
		if must := touched(a, c.Frags); !reflect.DeepEqual(got, must) {
			t.Fatalf("P16.1: step %d, %c%d: %v, not %v", k, a.how, a.n, got, must)
		}
		if a.how == 'r' {
			m.Write(a.n, trash())
			continue
		}
		s.Next()
		if s.Table().State(a.n) == api.Used {
			s.Table().Set(a.n, api.Used, true, !sense)
		}
	}
	if len(want.did) == 0 && (!x.Step(m, s) || m.Count() != len(words) || s.Count() != 0) {
		t.Fatalf("P16.1: the first step is not the last one, or has an access")
	}
	isOver(t, x, m, s, want)
}

// touch is what is to be seen of a step.
type touch struct {
	reads, shades int
	laid          int
	black         []int
}

// touched is what is to be seen of an access, of so many white heads.
func touched(a access, frags int) touch {
	switch {
	case a.how == 'r':
		return touch{reads: 1}
	case a.n >= frags:
		return touch{shades: 1}
	case a.how == 'g':
		return touch{shades: 1, laid: 1, black: []int{a.n}}
	}
	return touch{shades: 1, black: []int{a.n}}
}

// blacks lists the fragments that are black, without counting.
func blacks(s *shade.Shade, sense bool) []int {
	var l []int
	for i := range s.Table().Len() {
		if s.Table().Black(i, sense) {
			l = append(l, i)
		}
	}
	return l
}

// fill stores into the slots at these addresses: nothing, references to
// fragments, and now and then one to a fragment that there is not.
func fill(words []complex128, slots []int, next func(int) int) {
	for _, a := range slots {
		switch next(8) {
		case 0, 1:
			words[a] = none
		case 2:
			words[a] = ref([]int{100, 101, 1023, 1024, 1 << 32, 1<<40 - 1, 1 << 40}[next(7)])
		default:
			words[a] = ref(next(100))
		}
	}
}

// slotsOf lists the addresses of the slots that are references.
func slotsOf(refs []bool, got []int) []int {
	var l []int
	for k, place := range fieldPlaces(len(refs)) {
		if refs[k] {
			l = append(l, 8*got[place[0]]+place[1])
		}
	}
	return l
}

// elementsOf lists the addresses of the elements.
func elementsOf(n int, got []int) []int {
	var l []int
	for i := range n {
		l = append(l, 8*got[1+i/8]+i%8)
	}
	return l
}

// sizeOf is how many fragments an object of so many fields has.
func sizeOf(fields int) int {
	n := 1
	for _, place := range fieldPlaces(fields) {
		n = place[0] + 1
	}
	return n
}

func TestObjects(t *testing.T) {
	next := scattered(1)
	for _, n := range []int{0, 1, 2, 5, 6, 7, 12, 13, 14, 19, 20, 21, 27, 28, 33, 34, 35, 39, 40} {
		for pattern := range 4 {
			refs := fields(n, pattern)
			c := sized(100, 70, shape.Shape{Array: true, Refs: []bool{true}}, shape.Shape{Refs: refs})
			for _, got := range ways(100, sizeOf(n)) {
				words := junk(c)
				layObject(t, c, words, 1, got)
				holds(t, c, words, got[0], objectCourse(words, refs, got))
				fill(words, slotsOf(refs, got), next)
				holds(t, c, words, got[0], objectCourse(words, refs, got))
			}
		}
	}
}

// lengths lists those at which something changes, and some others.
func lengths() []int {
	return []int{0, 1, 2, 7, 8, 9, 15, 16, 17, 24, 25, 31, 32, 33, 34, 39, 40, 41, 48, 50, 64, 65, 100, 505, 511, 512}
}

func TestArrays(t *testing.T) {
	c := mixed()
	next := scattered(2)
	for _, n := range lengths() {
		for i, got := range ways(100, 1+(n+7)/8) {
			at := []int{800, 801, 870, 871}[i%4]
			words := junk(c)
			layArray(t, c, words, numsOf, n, got, at)
			holds(t, c, words, got[0], arrayCourse(words, false, n, got, at))
			for _, kind := range []int{refsOf, others} {
				words := junk(c)
				layArray(t, c, words, kind, n, got, at)
				holds(t, c, words, got[0], arrayCourse(words, true, n, got, at))
				fill(words, elementsOf(n, got), next)
				holds(t, c, words, got[0], arrayCourse(words, true, n, got, at))
			}
		}
	}
}

// The steps that the chapter's words give, counted by hand.
func TestSteps(t *testing.T) {
	c := mixed()
	for _, x := range []struct {
		kind, n int
		got     []int
		steps   int
	}{
		{empty, 0, []int{9}, 1},                 // word 1
		{pairs, 0, []int{9}, 2},                 // and the field 0
		{seven, 0, []int{9, 10}, 1 + 6 + 2 + 1}, // side by side too: the link, the part
		{seven, 0, []int{9, 4}, 1 + 6 + 2 + 1},
		{fifteen, 0, []int{9, 4, 2}, 1 + 2*2}, // no field is read
		{refsOf, 0, []int{9}, 2},              // word 3 is not read
		{numsOf, 1, []int{9, 10}, 3 + 2},
		{numsOf, 32, []int{9, 4, 3, 2, 1}, 3 + 4*2},
		{refsOf, 9, []int{9, 4, 3}, 3 + 2*2 + 9},
		{numsOf, 33, row(9, 6), 4 + 5}, // no word leads to any
		{refsOf, 33, row(9, 6), 4 + 5 + 33},
		{numsOf, 33, []int{9, 4, 3, 2, 1, 0}, 4 + 5*2}, // by its spine
		{others, 34, []int{9, 4, 3, 2, 1, 0}, 4 + 5*2 + 34},
	} {
		words := junk(c)
		if c.Shapes[x.kind].Array {
			layArray(t, c, words, x.kind, x.n, x.got, 871)
		} else {
			layObject(t, c, words, x.kind, x.got)
		}
		y, m, s := New(c, 9, true), memory(t, words), heads(t, 100, true)
		for range x.steps - 1 {
			if y.Step(m, s) {
				t.Fatalf("P16.2, P16.3: kind %d of %d: done behind %d steps, not %d", x.kind, x.n, y.Steps(), x.steps)
			}
		}
		if !y.Step(m, s) || y.Errno() != api.OK || !slices.Equal(blacks(s, true), slices.Sorted(slices.Values(x.got[1:]))) {
			t.Errorf("P16.2, P16.3: kind %d of %d: error %d, black %v", x.kind, x.n, y.Errno(), blacks(s, true))
		}
	}
}

func TestConfThatMayNotBe(t *testing.T) {
	for _, spoil := range []func(c *conf.Conf){
		func(c *conf.Conf) { *c = conf.Conf{} },
		func(c *conf.Conf) { c.Frags = 3 },
		func(c *conf.Conf) { c.Spine = -1 },
		func(c *conf.Conf) { c.Globals = 9 },
		func(c *conf.Conf) { c.Threads = 0 },
		func(c *conf.Conf) { c.Stack = 257 },
		func(c *conf.Conf) { c.Shapes = nil },
		func(c *conf.Conf) { c.Shapes = append(c.Shapes, shape.Shape{}) },
		func(c *conf.Conf) { c.Shapes[7].Refs = make([]bool, 41) },
	} {
		words := junk(mixed())
		layObject(t, mixed(), words, pairs, []int{0})
		c := mixed()
		spoil(&c)
		holds(t, c, words, 0, course{nil, api.ErrCorrupt})
	}
}

func TestNoFragment(t *testing.T) {
	c := mixed()
	words := junk(c)
	for a := range words {
		words[a] = none
	}
	for _, head := range append(farOff(), 100, 101, 102, 110, 800, 1023, 1024) {
		holds(t, c, words, head, course{nil, api.ErrCorrupt})
	}
	for _, head := range []int{0, 99} {
		words[8*head+1] = top(empty, 0)
		holds(t, c, words, head, course{[]access{{'r', 8*head + 1}}, api.OK})
	}
}

// notWhole lists words that are near to whole numbers and are none.
func notWhole(n int) []complex128 {
	x := float64(n)
	return []complex128{
		complex(x, minus()), complex(x, 1), complex(x, -1), complex(x, math.NaN()), complex(x, math.Inf(1)),
		complex(x+0.5, 0), complex(math.Nextafter(x, 1000), 0), complex(math.Nextafter(x, -1000), 0),
		complex(-x-1, 0), complex(minus(), 0), complex(math.NaN(), 0), complex(math.Inf(1), 0), complex(math.Inf(-1), 0),
		complex(1<<53, 0), complex(1<<62, 0), complex(1<<63, 0), complex(1e300, 0), complex(-1e300, 0), none, ref(n),
	}
}

// notRef lists words that are no reference, not even one to nothing.
func notRef() []complex128 {
	return []complex128{
		0, 1, 2, complex(1, minus()), complex(1, -1), complex(1, 2), complex(1, 0.5), complex(1, math.NaN()), complex(1, math.Inf(1)),
		complex(minus(), 1), complex(-1, 1), complex(0.5, 1), complex(1.5, 1), complex(math.NaN(), 1), complex(math.Inf(1), 1),
		complex(math.Inf(-1), 1), complex(1<<40+2, 1), complex(1<<41, 1), complex(1<<53, 1), complex(1<<63, 1), complex(1e300, 1),
		complex(-1e300, 1), complex(math.NaN(), math.NaN()), complex(0, math.Nextafter(1, 2)), complex(0, -1), complex(0, 2),
	}
}

// notFrag lists words that are no reference to a fragment of mixed.
func notFrag() []complex128 {
	return append(notRef(), none, ref(100), ref(101), ref(1<<32), ref(1<<40))
}

// spoils asks that each of the words ends the course at its read nth.
func spoils(t *testing.T, c conf.Conf, words []complex128, head int, good course, nth int, list []complex128) {
	t.Helper()
	words = slices.Clone(words)
	for _, w := range list {
		words[good.did[nth].n] = w
		holds(t, c, words, head, good.spoilt(nth))
	}
}

func TestWrongHeads(t *testing.T) {
	c := mixed()
	list := []complex128{
		top(8, 0), top(8, 1), top(9, 0), top(1<<40, 0), top(1<<32, 0), top(-1, 0), top(0, -1), top(1, -1), none + 0.5,
		complex(0.5, 0), complex(0, 0.5), complex(0, minus()), complex(minus(), 0), complex(1, minus()), complex(2, minus()),
		complex(1<<40+1, 0), complex(0, 1<<40+1), complex(1, 1<<40+1), complex(1<<62, 0), complex(1e300, 0), complex(0, 1e300),
		complex(math.NaN(), 0), complex(0, math.NaN()), complex(math.Inf(1), 0), complex(0, math.Inf(1)), complex(math.Inf(-1), 0),
	}
	for kind, s := range c.Shapes {
		for _, mode := range []int{1, 2, 3, 1 << 32, 1 << 40} {
			if mode > 1 || s.Array {
				list = append(list, top(kind, mode))
			}
		}
	}
	spoils(t, c, junk(c), 6, course{did: []access{{'r', 49}}}, 0, list)
}

// Whatever its mode, the links of an object lead from fragment to fragment.
func TestModesOfObjects(t *testing.T) {
	c := mixed()
	got := []int{9, 3, 77, 50, 0, 30}
	for mode := range 2 {
		words := junk(c)
		layObject(t, c, words, turns, got)
		words[73] = top(turns, mode)
		holds(t, c, words, 9, objectCourse(words, c.Shapes[turns].Refs, got))
	}
	words := junk(c)
	layObject(t, c, words, turns, []int{99, 3, 77, 50, 0, 30})
	words[8*99+1] = top(turns, 1)
	holds(t, c, words, 99, objectCourse(words, c.Shapes[turns].Refs, []int{99, 3, 77, 50, 0, 30}))
}

func TestWrongLengths(t *testing.T) {
	c := mixed()
	for _, n := range []int{0, 8, 40} {
		words := junk(c)
		got := row(6, 1+(n+7)/8)
		layArray(t, c, words, refsOf, n, got, -1)
		list := append(notWhole(n), whole(-1), whole(513), whole(514), whole(1024), whole(1<<32+8), whole(-1<<53))
		spoils(t, c, words, 6, arrayCourse(words, true, n, got, -1), 1, list)
	}
}

func TestWrongModes(t *testing.T) {
	c := mixed()
	list := append(append(notWhole(0), notWhole(1)...), notWhole(2)...)
	list = append(list, whole(-1), whole(3), whole(4), whole(1<<32), whole(1<<32+1))
	for _, n := range lengths()[1:] {
		words := junk(c)
		got := row(6, 1+(n+7)/8)
		layArray(t, c, words, refsOf, n, got, -1)
		bad := append(list, whole(1), whole(2))
		if n > 32 {
			bad = append(list, whole(0))
		}
		spoils(t, c, words, 6, arrayCourse(words, true, n, got, -1), 2, bad)
	}
}

// checkSlots asks that each reference that is read may be any one of any
// fragment, or to nothing, but no other word.
func checkSlots(t *testing.T, c conf.Conf, words []complex128, head int, good course, isSlot func(a int) bool) {
	t.Helper()
	for nth, a := range good.did {
		if a.how == 'r' && isSlot(a.n) {
			spoils(t, c, words, head, good, nth, notRef())
		}
	}
}

func TestWrongFields(t *testing.T) {
	c := mixed()
	for _, got := range [][]int{{9, 3, 77, 50, 0, 30}, row(9, 6)} {
		words := junk(c)
		layObject(t, c, words, turns, got)
		slots := slotsOf(c.Shapes[turns].Refs, got)
		fill(words, slots, scattered(3))
		checkSlots(t, c, words, 9, objectCourse(words, c.Shapes[turns].Refs, got), func(a int) bool { return slices.Contains(slots, a) })
	}
}

func TestWrongElements(t *testing.T) {
	c := mixed()
	for n, got := range map[int][]int{11: {9, 3, 77}, 37: {9, 3, 77, 50, 0, 30}, 36: row(9, 6)} {
		words := junk(c)
		layArray(t, c, words, refsOf, n, got, 871)
		slots := elementsOf(n, got)
		fill(words, slots, scattered(4))
		checkSlots(t, c, words, 9, arrayCourse(words, true, n, got, 871), func(a int) bool { return slices.Contains(slots, a) })
	}
}

// What is no field, no element, or a number, is not read, whatever it is: holds
// has only those words in memory that must be read. So it is of what stands
// behind the end, too.
func TestWhatIsNotRead(t *testing.T) {
	c := mixed()
	words := junk(c)
	layObject(t, c, words, seven, []int{9, 3})
	words[8*3] = trash()
	holds(t, c, words, 9, objectCourse(words, c.Shapes[seven].Refs, []int{9, 3}))
	layArray(t, c, words, others, 33, []int{10, 20, 22, 24, 26, 28}, 871)
	words[871], words[872], words[8*28+1] = trash(), trash(), trash()
	holds(t, c, words, 10, arrayCourse(words, true, 33, []int{10, 20, 22, 24, 26, 28}, 871))
}

func TestWrongLinks(t *testing.T) {
	c := mixed()
	for _, got := range [][]int{{9, 3, 77, 50, 0, 30}, row(9, 6)} {
		words := junk(c)
		layObject(t, c, words, turns, got)
		good := objectCourse(words, c.Shapes[turns].Refs, got)
		for _, frag := range got[:5] {
			spoils(t, c, words, 9, good, slices.Index(good.did, access{'r', 8 * frag}), notFrag())
		}
	}
}

func TestLinksThatGoRound(t *testing.T) {
	c := mixed()
	for _, got := range [][]int{{9, 9, 9, 9, 9, 9}, {9, 3, 9, 3, 9, 3}, {9, 3, 4, 4, 4, 4}} {
		words := junk(c)
		for nth, frag := range got[:5] {
			words[8*frag] = ref(got[nth+1])
		}
		for _, frag := range got {
			for k := 1; k < 8; k++ {
				words[8*frag+k] = ref(k)
			}
		}
		words[73] = top(turns, 0)
		want := objectCourse(words, c.Shapes[turns].Refs, got)
		if got[1] == 9 {
			// The second time its Head stands where the field 6 is, and is no
			// reference; the third time a number is there, which is not read.
			want = want.spoilt(1 + slices.Index(want.did[1:], access{'r', 73}))
		}
		holds(t, c, words, 9, want)
	}
}

func TestWrongReferencesInSentinels(t *testing.T) {
	c := mixed()
	got := []int{9, 3, 77, 50, 0}
	words := junk(c)
	layArray(t, c, words, refsOf, 32, got, -1)
	good := arrayCourse(words, true, 32, got, -1)
	for data := range 4 {
		spoils(t, c, words, 9, good, slices.Index(good.did, access{'r', 8*9 + 4 + data}), notFrag())
	}
}

func TestRows(t *testing.T) {
	c := mixed()
	words := junk(c)
	layArray(t, c, words, numsOf, 50, row(9, 8), -1)
	spoils(t, c, words, 9, arrayCourse(words, false, 50, row(9, 8), -1), 3, append(notFrag(), ref(94), ref(99)))
	for _, n := range lengths()[18:] {
		data := (n + 7) / 8
		for first := range 100 {
			words[8*9+2], words[8*9+4] = whole(n), ref(first)
			want := arrayCourse(words, false, n, append([]int{9}, row(first, data)...), -1)
			if first != 10 {
				// The course of those that are in order: the head is elsewhere.
				want = course{did: append([]access{}, want.did[:4]...)}
				for k := range data {
					want.part(first + k)
				}
			}
			if first+data > 100 {
				want = want.spoilt(3)
			}
			holds(t, c, words, 9, want)
		}
	}
}

func TestWrongSpines(t *testing.T) {
	c := mixed()
	got := []int{9, 3, 77, 50, 0, 30, 31, 36}
	words := junk(c)
	layArray(t, c, words, refsOf, 50, got, 860)
	good := arrayCourse(words, true, 50, got, 860)
	spoils(t, c, words, 9, good, 3, append(notWhole(860), whole(-1), whole(-860), whole(942), whole(943), whole(1<<32+860)))
	for data := range 7 {
		spoils(t, c, words, 9, good, slices.Index(good.did, access{'r', 862 + data}), notFrag())
	}
}

func TestSpinesAtEveryAddress(t *testing.T) {
	c := mixed()
	for at := range 942 {
		words := junk(c)
		for j := range 7 {
			if at+2+j < 942 {
				words[at+2+j] = ref(j * 3)
			}
		}
		words[73], words[74], words[75], words[76] = top(numsOf, 0), whole(50), whole(1), whole(at)
		holds(t, c, words, 9, expected(c, words, 9))
	}
}

func TestMemoryThatIsTooSmall(t *testing.T) {
	c := mixed()
	words := junk(c)
	object, array := []int{9, 3, 77, 50, 0, 30}, []int{11, 4, 76, 51, 1, 31}
	layObject(t, c, words, turns, object)
	layArray(t, c, words, refsOf, 40, array, 860)
	fill(words, append(slotsOf(c.Shapes[turns].Refs, object), elementsOf(40, array)...), scattered(5))
	courses := map[int]course{
		9:  objectCourse(words, c.Shapes[turns].Refs, object),
		11: arrayCourse(words, true, 40, array, 860),
	}
	for size := range words {
		for head, want := range courses {
			if nth := slices.IndexFunc(want.did, func(a access) bool { return a.how == 'r' && a.n >= size }); nth >= 0 {
				want = want.spoilt(nth)
			}
			holds(t, c, words[:size], head, want)
		}
	}
}

// A shade of other fragments than the conf has, or of none, is none of its
// errors.
func TestShadeThatIsTooSmall(t *testing.T) {
	c := mixed()
	words := junk(c)
	got := []int{9, 3, 77, 50, 0, 30}
	layObject(t, c, words, turns, got)
	fill(words, slotsOf(c.Shapes[turns].Refs, got), scattered(6))
	want := objectCourse(words, c.Shapes[turns].Refs, got)
	for _, frags := range []int{0, 1, 31, 77} {
		x, m, s := New(c, 9, true), memory(t, words), heads(t, frags, true)
		for !x.Step(m, s) {
		}
		isOver(t, x, m, s, want)
	}
}

func TestNothingHandedInIsChanged(t *testing.T) {
	c := mixed()
	words := junk(c)
	layObject(t, c, words, turns, []int{9, 3, 77, 50, 0, 30})
	layArray(t, c, words, refsOf, 40, []int{11, 4, 76, 51, 1, 31}, 860)
	m, s := memory(t, words), heads(t, 100, true)
	for head := range 12 {
		x := New(c, head, true)
		for !x.Step(m, s) {
		}
	}
	for a, w := range words {
		if !num.Same(m.Peek(a), w) {
			t.Fatalf("P16.1: the word %d is written", a)
		}
	}
	if !reflect.DeepEqual(c, mixed()) {
		t.Errorf("P0.4: the conf handed in is %v now", c)
	}
}

func TestNothingHandedInIsKept(t *testing.T) {
	words := junk(mixed())
	object, array := []int{9, 3, 77, 50, 0, 30}, []int{11, 4, 76, 51, 1, 31}
	layObject(t, mixed(), words, turns, object)
	layArray(t, mixed(), words, refsOf, 40, array, 860)
	c := mixed()
	x, y := New(c, 9, true), New(c, 11, false)
	for kind := range c.Shapes {
		for k := range c.Shapes[kind].Refs {
			c.Shapes[kind].Refs[k] = !c.Shapes[kind].Refs[k]
		}
		c.Shapes[kind] = shape.Shape{Array: !c.Shapes[kind].Array}
	}
	m, s := memory(t, words), heads(t, 100, true)
	for !x.Step(m, s) {
	}
	for !y.Step(m, s) {
	}
	isOver(t, x, m, s, objectCourse(words, mixed().Shapes[turns].Refs, object))
	isOver(t, y, m, s, arrayCourse(words, true, 40, array, 860))
}

func TestProgramsByTurns(t *testing.T) {
	c := mixed()
	words := junk(c)
	layObject(t, c, words, turns, []int{9, 3, 77, 50, 0, 30})
	layArray(t, c, words, refsOf, 40, []int{11, 4, 76, 51, 1, 31}, 860)
	layArray(t, c, words, others, 40, row(80, 6), -1)
	m, s := memory(t, words), heads(t, 100, true)
	var programs []*Trace
	for i := range 40 {
		programs = append(programs, New(c, []int{9, 11, 80, 100}[i%4], i%3 == 0))
	}
	next := scattered(7)
	for range 1000 {
		programs[next(40)].Step(m, s)
	}
	for i, x := range programs {
		for !x.Step(m, s) {
		}
		isOver(t, x, m, s, expected(c, words, []int{9, 11, 80, 100}[i%4]))
	}
}

// scene is a memory, the fragments that one thing in it has, and the heads that
// it refers to, which are others.
type scene struct {
	words []complex128
	got   []int
	heads []int
}

// scenes lists objects and arrays of mixed, with references to heads, to
// fragments that are none, and to nothing.
func scenes(t *testing.T, c conf.Conf) []scene {
	t.Helper()
	var l []scene
	next := scattered(8)
	for kind, s := range c.Shapes {
		list := []int{0}
		if s.Array {
			list = lengths()[:20]
		}
		for _, n := range list {
			got := shuffled(60, shape.Size(s, n), next)
			if next(3) == 0 {
				got = row(next(60-len(got)), len(got))
			}
			x := scene{words: junk(c), got: got, heads: shuffled(40, 5, next)}
			for i := range x.heads {
				x.heads[i] += 60
			}
			var slots []int
			if s.Array {
				layArray(t, c, x.words, kind, n, got, 871)
			} else {
				layObject(t, c, x.words, kind, got)
				slots = slotsOf(s.Refs, got)
			}
			if s.Array && s.Refs[0] {
				slots = elementsOf(n, got)
			}
			x.heads = x.refer(slots, next)
			l = append(l, x)
		}
	}
	return l
}

// refer stores into the slots, and answers the heads that they refer to.
func (x *scene) refer(slots []int, next func(int) int) []int {
	var l []int
	for _, a := range slots {
		switch frag := x.heads[next(5)]; next(3) {
		case 0:
			x.words[a] = none
		case 1:
			x.words[a], l = ref(frag), append(l, frag)
		case 2:
			x.words[a] = ref(1 << 30)
		}
	}
	return l
}

// shaded is a shade of which nobody knows what is black, with room for so many.
func (x scene) shaded(t *testing.T, most int, seed uint64) *shade.Shade {
	t.Helper()
	next := scattered(seed)
	s, e := shade.New(100, most)
	if e != api.OK {
		t.Fatalf("P15.1: %d", e)
	}
	for i := range 100 {
		s.Table().Set(i, next(3), next(2) == 0, next(2) == 0)
	}
	for _, frag := range slices.Concat(x.got, x.heads) {
		s.Table().Set(frag, api.Used, slices.Contains(x.heads, frag) || frag == x.got[0], next(2) == 0)
	}
	return s
}

// apply does to a shade what the course does.
func (x course) apply(s *shade.Shade, sense bool) {
	for _, a := range x.did {
		switch a.how {
		case 'g':
			s.Grey(a.n, sense)
		case 'p':
			s.Part(a.n, sense)
		}
	}
}

func TestBlackBehindIt(t *testing.T) {
	c := mixed()
	for i, x := range scenes(t, c) {
		for _, most := range []int{1, 3, 256} {
			for _, sense := range []bool{false, true} {
				s, other := x.shaded(t, most, uint64(i)), x.shaded(t, most, uint64(i))
				y, m := New(c, x.got[0], sense), memory(t, x.words)
				for !y.Step(m, s) {
				}
				want := expected(c, x.words, x.got[0])
				want.apply(other, sense)
				isOver(t, y, m, s, want)
				if !reflect.DeepEqual(s, other) {
					t.Fatalf("P16.1: scene %d: the shade is not as the steps leave it", i)
				}
				for _, frag := range slices.Concat(x.got[1:], x.heads) {
					if y.Errno() != api.OK || !s.Table().Black(frag, sense) {
						t.Fatalf("P16.4: scene %d: %d is white, error %d", i, frag, y.Errno())
					}
				}
				if most := 3 + 18*len(x.got); y.Steps() > most {
					t.Fatalf("P16.4: scene %d: %d steps, above %d", i, y.Steps(), most)
				}
			}
		}
	}
}

// walk is a course under way, by what any words whatever tell.
type walk struct {
	course
	c     conf.Conf
	words []complex128
}

// expected is what the promises ask for of any words whatever, each one looked
// for among all that it may be.
func expected(c conf.Conf, words []complex128, head int) course {
	x := &walk{c: c, words: words}
	if conf.Check(c) != api.OK || head < 0 || head >= c.Frags {
		return course{nil, api.ErrCorrupt}
	}
	if !x.thing(head) {
		x.e = api.ErrCorrupt
	}
	return x.course
}

func (x *walk) word(a int) complex128 {
	x.read(a)
	if a >= len(x.words) {
		return trash()
	}
	return x.words[a]
}

// frag is the fragment to which the word a refers; -1, if there is none.
func (x *walk) frag(a int) int { return amongst(x.c.Frags, x.word(a), ref) }

func (x *walk) thing(head int) bool {
	w := x.word(8*head + 1)
	for kind, s := range x.c.Shapes {
		switch {
		case num.Same(w, top(kind, 0)) && s.Array:
			return x.array(head, s.Refs[0])
		case num.Same(w, top(kind, 0)), num.Same(w, top(kind, 1)) && !s.Array:
			return x.object(head, s.Refs)
		}
	}
	return false
}

func (x *walk) object(frag int, refs []bool) bool {
	nth := 0
	for k, place := range fieldPlaces(len(refs)) {
		if place[0] > nth {
			nth++
			if frag = x.frag(8 * frag); frag < 0 {
				return false
			}
			x.part(frag)
		}
		if refs[k] && !x.any(8*frag+place[1]) {
			return false
		}
	}
	return true
}

func (x *walk) array(head int, isRef bool) bool {
	n := amongst(513, x.word(8*head+2), whole)
	if n <= 0 {
		return n == 0
	}
	mode := amongst(3, x.word(8*head+3), whole)
	at := 8*head + 4
	switch {
	case mode < 0 || n > 32 && mode == 0 || n <= 32 && mode > 0:
		return false
	case mode == 1:
		if at = amongst(area.Words(x.c), x.word(at), whole) + 2; at < 2 {
			return false
		}
	case mode == 2:
		if at = x.frag(at); at < 0 || at+(n+7)/8 > x.c.Frags {
			return false
		}
	}
	frag := -1
	for i := range n {
		if i%8 == 0 {
			if frag = at + i/8; mode != 2 {
				frag = x.frag(frag)
			}
			if frag < 0 {
				return false
			}
			x.part(frag)
		}
		if isRef && !x.any(8*frag+i%8) {
			return false
		}
	}
	return true
}

// any is what is done of a slot, whatever stands there.
func (x *walk) any(a int) bool {
	w := x.word(a)
	if num.Same(w, none) {
		return true
	}
	where := real(w)
	if imag(w) != 1 || where != math.Trunc(where) || where < 1 || where > 1<<40+1 {
		return false
	}
	x.grey(int(where) - 1)
	return true
}

// amongst looks for the number below count whose word w is; -1, if there is
// none.
func amongst(count int, w complex128, as func(int) complex128) int {
	for n := range count {
		if num.Same(as(n), w) {
			return n
		}
	}
	return -1
}

// likely is a word that stands often where a program reads.
func likely(next func(int) int) complex128 {
	switch next(40) {
	case 0:
		return whole(next(44) - 1)
	case 1:
		return whole(next(515) - 1)
	case 2:
		return whole(next(4))
	case 3, 4:
		return top(next(5), next(3))
	case 5:
		return complex(float64(next(4)), minus())
	case 6, 7, 8, 9, 10:
		return none
	}
	return ref(next(7))
}

func TestAnyWords(t *testing.T) {
	next := scattered(2026)
	c := sized(6, 8, shape.Shape{Refs: fields(20, 3)}, shape.Shape{Array: true, Refs: []bool{true}},
		shape.Shape{Refs: fields(14, 2)}, shape.Shape{Array: true, Refs: []bool{false}})
	ends := map[api.Errno]map[int]bool{api.OK: {}, api.ErrCorrupt: {}}
	for range 20000 {
		words := make([]complex128, area.Words(c)-next(10)/9*next(30))
		for a := range words {
			words[a] = likely(next)
		}
		head := next(8) - 1
		if at := 8 * head; next(3) > 0 && at >= 0 && at+4 < len(words) {
			words[at+1] = top(next(4), 0)
			words[at+2], words[at+3] = whole(next(48)), whole(next(3))
		}
		want := expected(c, words, head)
		holds(t, c, words, head, want)
		ends[want.e][len(want.did)] = true
	}
	// So that courses of many lengths are there that end well, and that do not.
	if len(ends[api.OK]) < 20 || len(ends[api.ErrCorrupt]) < 20 {
		t.Errorf("only ends at %v", ends)
	}
}
