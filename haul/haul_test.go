package haul

import (
	"math"
	"reflect"
	"slices"
	"testing"

	"spolia/api"
	"spolia/area"
	"spolia/coil"
	"spolia/conf"
	"spolia/find"
	"spolia/mem"
	"spolia/num"
	"spolia/plan"
	"spolia/shade"
	"spolia/shape"
)

const none = 0 + 1i // the reference to nothing

// ref is the reference to a fragment.
func ref(frag int) complex128 { return complex(float64(frag+1), 1) }

// whole is a whole number as a word.
func whole(n int) complex128 { return complex(float64(n), 0) }

// trash is a word that may stand nowhere.
func trash() complex128 { return complex(math.NaN(), -3) }

// minus is minus nought, which a literal can't be.
func minus() float64 { return math.Copysign(0, -1) }

// The numbers of plain: where its spaces begin, and where all ends.
const (
	frags  = 30
	spine  = 40
	space0 = 8 * frags
	space1 = space0 + spine
	behind = space1 + spine
	words  = behind + 2
)

func plain() conf.Conf {
	return conf.Conf{
		Frags: frags, Spine: spine, Globals: 2, Threads: 2, Locals: 3, Cache: 1, Stack: 9, Low: 1,
		Shapes: []shape.Shape{{Refs: []bool{true}}, {Array: true, Refs: []bool{false}}},
	}
}

// begin is where a space of plain begins.
func begin(space int) int { return space0 + space*spine }

// scattered answers numbers below a bound that follow no rule one sees, the
// same ones each time.
func scattered(seed uint64) func(bound int) int {
	return func(bound int) int {
		seed += 0x9E3779B97F4A7C15
		z := (seed ^ seed>>30) * 0xBF58476D1CE4E5B9
		z = (z ^ z>>27) * 0x94D049BB133111EB
		return int((z ^ z>>31) % uint64(bound))
	}
}

// farOff lists numbers that are no space, and no end of one of plain.
func farOff() []int {
	return []int{
		-1, -2, -8, -100, math.MinInt32, math.MinInt, math.MinInt + 1, math.MinInt / 8, spine + 1, spine + 2, 2 * spine,
		space0, space1, behind, words, api.MaxSpine, 1 << 32, 1<<32 + 1, 1 << 40, math.MaxInt32, math.MaxInt,
		math.MaxInt - 1, math.MaxInt - 2, math.MaxInt / 8, math.MaxInt/2 + 1,
	}
}

// scene is all that a program is handed.
type scene struct {
	c         conf.Conf
	words     []complex128
	black     []bool // of each fragment, all of them heads
	size      int    // of each space of the coil
	current   int    // its space that is filled
	used      int    // there, ahead of the first copy
	left      int    // so many are kept there
	from, end int
}

// made is a scene of plain with nothing in it, where all that is in the space
// from, up to its word end, is kept.
func made(from, end int) *scene {
	return &scene{
		c: plain(), words: slices.Repeat([]complex128{trash()}, words), black: make([]bool, frags),
		size: spine, current: 1 - from, left: end, from: from, end: end,
	}
}

// coil is that of the scene.
func (x *scene) coil(t *testing.T) *coil.Coil {
	t.Helper()
	k, e := coil.New(x.size)
	if e != api.OK {
		t.Fatalf("P11.1: %d", e)
	}
	if x.current == 0 {
		k.Turn()
	}
	if x.left > 0 {
		k.Take(x.left)
	}
	k.Turn()
	if x.used > 0 {
		k.Take(x.used)
	}
	if k.Current() != x.current || k.Used(x.current) != x.used || k.Left() != x.left {
		t.Fatalf("P11.2: there is no such coil: %+v", *x)
	}
	return k
}

// memory has these words.
func memory(t *testing.T, words []complex128) *mem.Mem {
	t.Helper()
	m, e := mem.New(len(words))
	if e != api.OK {
		t.Fatalf("P6.1: no memory of %d words: %d", len(words), e)
	}
	for a, w := range words {
		m.Write(a, w)
	}
	return m
}

// heads is a shade of heads, black or white.
func heads(t *testing.T, black []bool, sense bool) *shade.Shade {
	t.Helper()
	s, e := shade.New(len(black), 1)
	if e != api.OK {
		t.Fatalf("P15.1: no shade of %d: %d", len(black), e)
	}
	paint(s, black, sense)
	return s
}

func paint(s *shade.Shade, black []bool, sense bool) {
	for i, b := range black {
		s.Table().Set(i, api.Used, true, b == sense)
	}
}

// access is what a step does: it reads a word (r), writes one (w), or the one
// that ends a copy (e), asks of a fragment whether it is black (b), copies (c) or
// skips (s) so many words, or does nothing (-).
type access struct {
	how byte
	n   int
	w   complex128
}

// course is all that a program does, a step each, and what it tells at its end.
type course struct {
	did []access
	e   api.Errno
}

func (x *course) add(how byte, n int, w complex128) { x.did = append(x.did, access{how, n, w}) }
func (x *course) read(a int)                        { x.add('r', a, 0) }

// spoilt is the course that ends with its step nth, of which something is wrong.
func (x course) spoilt(nth int) course { return course{slices.Clone(x.did[:nth+1]), api.ErrCorrupt} }

// moved is how many copies are ended behind so many steps.
func (x course) moved(steps int) int {
	n := 0
	for k, a := range x.did[:steps] {
		wrong := k == len(x.did)-1 && x.e != api.OK
		if a.how == 'e' && !wrong {
			n++
		}
	}
	return n
}

// laid is a spine as it stands in a space.
type laid struct {
	head  int
	black bool
	left  bool // its sentinel has another one
	slots []complex128
}

// refs lists references to fragments one behind the other.
func refs(first, n int) []complex128 {
	var l []complex128
	for i := range n {
		l = append(l, ref(first+i))
	}
	return l
}

// length is how many words the spines have in all.
func length(spines []laid) int {
	n := 0
	for _, s := range spines {
		n += 2 + len(s.slots)
	}
	return n
}

// lay lays spines, one behind the other, into a scene of its own.
func lay(from int, spines ...laid) *scene {
	x := made(from, length(spines))
	at := begin(from)
	for _, s := range spines {
		x.words[at], x.words[at+1] = ref(s.head), whole(len(s.slots))
		copy(x.words[at+2:], s.slots)
		x.black[s.head] = s.black
		x.words[8*s.head+4] = whole(at)
		if s.left {
			x.words[8*s.head+4] = whole(at + 1)
		}
		at += 2 + len(s.slots)
	}
	return x
}

// goes is what P17.2 asks for of spines that are as they must be, copied from
// a word of the other space on.
func goes(from, to int, spines ...laid) course {
	var x course
	at := begin(from)
	to += begin(1 - from)
	for _, s := range spines {
		n := 2 + len(s.slots)
		x.read(at)
		x.read(at + 1)
		x.add('b', s.head, 0)
		if s.black {
			x.read(8*s.head + 4)
		}
		if !s.black || s.left {
			x.add('s', n, 0)
			at += n
			continue
		}
		x.add('c', n, 0)
		x.add('w', to, ref(s.head))
		x.add('w', to+1, whole(len(s.slots)))
		for i, w := range s.slots {
			x.read(at + 2 + i)
			x.add('w', to+2+i, w)
		}
		x.add('e', 8*s.head+4, whole(to))
		at += n
		to += n
	}
	return x
}

// tells asks for all that a program tells behind so many steps of its course.
func tells(t *testing.T, h *Haul, want course, steps int) {
	t.Helper()
	done, e := steps == len(want.did), api.OK
	if done {
		e = want.e
	}
	if h.Done() != done || h.Errno() != e || h.Steps() != steps || h.Moved() != want.moved(steps) {
		t.Fatalf("P17.1, P17.2: behind %d steps: done %t, error %d, %d steps, %d moved, not %t, %d, %d, %d, of %v",
			steps, h.Done(), h.Errno(), h.Steps(), h.Moved(), done, e, steps, want.moved(steps), want)
	}
}

// isOver asks for all that a program tells at its end, and that nothing is done
// behind it.
func isOver(t *testing.T, h *Haul, m *mem.Mem, s *shade.Shade, k *coil.Coil, want course) {
	t.Helper()
	for range 3 {
		tells(t, h, want, len(want.did))
		words, shades, was := m.Count(), s.Count(), *k
		if !h.Step(m, s, k) || m.Count() != words || s.Count() != shades || *k != was {
			t.Fatalf("P17.1: a step behind the end does something")
		}
	}
}

// touch is what is to be seen of a step.
type touch struct {
	words, shades, left, used int
}

// touched is what is to be seen of an access, which is refused or not.
func touched(a access, refused bool) touch {
	switch {
	case a.how == 'r', a.how == 'w', a.how == 'e':
		return touch{words: 1}
	case a.how == 'b':
		return touch{shades: 1}
	case a.how == 'c' && !refused:
		return touch{left: -a.n, used: a.n}
	case a.how == 's' && !refused:
		return touch{left: -a.n}
	}
	return touch{}
}

// holds asks that each step does just what it must: the word that it has to read
// is the only one that is any good, and what it writes is to be seen at once.
// When it asks whether a fragment is black, all others are what that one is not.
func holds(t *testing.T, x *scene, want course) {
	t.Helper()
	sense := len(want.did)%2 == 0
	h := New(x.c, x.from, x.end, sense)
	blank := slices.Repeat([]complex128{trash()}, len(x.words))
	m, s, k := memory(t, blank), heads(t, x.black, sense), x.coil(t)
	for nth, a := range want.did {
		tells(t, h, want, nth)
		last := nth == len(want.did)-1
		switch a.how {
		case 'r':
			if a.n < len(x.words) {
				m.Write(a.n, x.words[a.n])
			}
		case 'b':
			black := slices.Repeat([]bool{want.did[nth+1].how == 's'}, len(x.black))
			black[a.n] = !black[a.n]
			paint(s, black, sense)
		}
		was := touch{m.Count(), s.Count(), k.Left(), k.Used(x.current)}
		if done := h.Step(m, s, k); done != last {
			t.Fatalf("P17.1: step %d, %c%d: done %t, error %d, of %v", nth, a.how, a.n, done, h.Errno(), want)
		}
		got := touch{m.Count() - was.words, s.Count() - was.shades, k.Left() - was.left, k.Used(x.current) - was.used}
		if must := touched(a, last && want.e != api.OK); got != must || k.Current() != x.current {
			t.Fatalf("P17.1, P17.2: step %d, %c%d: %v, not %v", nth, a.how, a.n, got, must)
		}
		checkWords(t, m, x, a)
	}
	isOver(t, h, m, s, k, want)
}

// checkWords asks that nothing was written but what the access writes, and wipes
// that.
func checkWords(t *testing.T, m *mem.Mem, x *scene, a access) {
	t.Helper()
	for at := range x.words {
		want := trash()
		switch {
		case at == a.n && a.how == 'r':
			want = x.words[at]
		case at == a.n && (a.how == 'w' || a.how == 'e'):
			want = a.w
		}
		if !num.Same(m.Peek(at), want) {
			t.Fatalf("P17.2: behind %c%d: the word %d is %v, not %v", a.how, a.n, at, m.Peek(at), want)
		}
	}
	if a.how == 'r' || a.how == 'w' || a.how == 'e' {
		m.Write(a.n, trash())
	}
}

// several lists spines of all kinds.
func several() []laid {
	return []laid{
		{head: 3, black: true, slots: refs(5, 5)},
		{head: 0, slots: refs(7, 4)},
		{head: 10, black: true},
		{head: frags - 1, black: true, left: true, slots: refs(1, 1)},
		{head: 12, black: true, slots: []complex128{ref(4), ref(4), ref(3)}},
		{head: 13},
		{head: 14, black: true, left: true},
	}
}

// What the chapter's words give, counted by hand.
func TestSteps(t *testing.T) {
	for _, x := range []struct {
		spines       []laid
		steps, moved int
	}{
		{[]laid{{head: 3}}, 4, 0},                          // two words, the colour, the Skip
		{[]laid{{head: 3, slots: refs(1, 9)}}, 4, 0},       // no slot is read
		{[]laid{{head: 3, black: true, left: true}}, 5, 0}, // the sentinel's word, too
		{[]laid{{head: 3, black: true}}, 5 + 2 + 1, 1},     // the Copy, two words and the sentinel's
		{[]laid{{head: 3, black: true, slots: refs(0, 5)}}, 8 + 2*5, 1},
		{several(), (8 + 10) + 4 + 8 + 5 + (8 + 6) + 4 + 5, 3},
	} {
		want := goes(0, 0, x.spines...)
		if len(want.did) != x.steps || want.moved(x.steps) != x.moved {
			t.Errorf("P17.2: %v: %d steps and %d moved, not %d and %d", x.spines, len(want.did), want.moved(x.steps), x.steps, x.moved)
		}
		holds(t, lay(0, x.spines...), want)
	}
}

func TestEmptySpaces(t *testing.T) {
	nothing := course{did: []access{{how: '-'}}}
	for from := range 2 {
		holds(t, made(from, 0), nothing)
		x := made(from, 0)
		x.words, x.black = nil, nil
		holds(t, x, nothing)
		x.c.Spine = 0
		holds(t, x, nothing)
	}
}

func TestSpines(t *testing.T) {
	for from := range 2 {
		for n := range spine - 1 {
			for pattern := range 3 {
				s := laid{head: n % frags, black: pattern > 0, left: pattern == 2, slots: refs(n%7, n)}
				holds(t, lay(from, s), goes(from, 0, s))
			}
		}
		all := several()
		holds(t, lay(from, all...), goes(from, 0, all...))
		slices.Reverse(all)
		holds(t, lay(from, all...), goes(from, 0, all...))
	}
}

// One that fills the largest space there may be, and has more slots than any
// array has data fragments.
func TestLongSpine(t *testing.T) {
	c := plain()
	c.Spine = api.MaxSpine
	const slots = api.MaxSpine - 2
	for from := range 2 {
		old, copied := space0+from*api.MaxSpine, space0+(1-from)*api.MaxSpine
		x := &scene{c: c, size: api.MaxSpine, current: 1 - from, left: api.MaxSpine, black: []bool{true}}
		x.words = make([]complex128, area.Words(c))
		x.words[4], x.words[old], x.words[old+1] = whole(old), ref(0), whole(slots)
		for i := range slots {
			x.words[old+2+i] = whole(i)
		}
		h, m, s, k := New(c, from, api.MaxSpine, true), memory(t, x.words), heads(t, x.black, true), x.coil(t)
		runs(t, h, m, s, k)
		if h.Errno() != api.OK || h.Moved() != 1 || h.Steps() != 8+2*slots || !num.Same(m.Peek(4), whole(copied)) {
			t.Fatalf("P17.2: error %d, %d moved, %d steps", h.Errno(), h.Moved(), h.Steps())
		}
		for i := range api.MaxSpine {
			if !num.Same(m.Peek(copied+i), x.words[old+i]) {
				t.Fatalf("P17.2: the word %d of the copy is %v", i, m.Peek(copied+i))
			}
		}
	}
}

// As many spines as a space may have, all of one kind or by turns.
func TestManySpines(t *testing.T) {
	for pattern := range 4 {
		var l []laid
		for i := range spine / 2 {
			l = append(l, laid{head: i, black: pattern == 0 || pattern == 3 && i%3 > 0, left: pattern == 1})
		}
		holds(t, lay(1, l...), goes(1, 0, l...))
	}
}

// The copies are laid where the coil tells, whatever stands ahead there.
func TestWhereCopyTells(t *testing.T) {
	l := several()
	for from := range 2 {
		for used := range spine - length(l) + 1 {
			x := lay(from, l...)
			x.used = used
			holds(t, x, goes(from, used, l...))
		}
	}
}

// They are laid into the other space, though the coil fills the one that they
// stand in.
func TestWhicheverSpaceIsFilled(t *testing.T) {
	l := several()
	for from := range 2 {
		x := lay(from, l...)
		x.current = from
		for x.used = 0; x.used < 9; x.used++ {
			holds(t, x, goes(from, x.used, l...))
		}
	}
}

// Up to the end that was told, whatever stands behind.
func TestEnds(t *testing.T) {
	l := several()
	for from := range 2 {
		for n := range l {
			x := lay(from, l...)
			x.end = length(l[:n])
			want := goes(from, 0, l[:n]...)
			if n == 0 {
				want.add('-', 0, 0)
			}
			holds(t, x, want)
		}
	}
}

// An end within a spine is told with its word 1, even where that one stands
// behind the end.
func TestEndsWithin(t *testing.T) {
	l := several()
	for n, s := range l {
		for short := 1; short < 2+len(s.slots); short++ {
			for from := range 2 {
				x := lay(from, l...)
				x.end = length(l[:n+1]) - short
				ahead := len(goes(from, 0, l[:n]...).did)
				holds(t, x, goes(from, 0, l[:n+1]...).spoilt(ahead+1))
			}
		}
	}
}

// Where a space ends behind the word 0 of a spine, that one has no word 1.
func TestSpaceThatEndsWithin(t *testing.T) {
	for from := range 2 {
		s := laid{head: 2, black: true, slots: refs(1, spine-3)}
		x := lay(from, s)
		x.end = spine
		x.words[begin(from)+spine-1] = ref(4)
		want := goes(from, 0, s)
		want.read(begin(from) + spine - 1)
		want.add('-', 0, 0)
		want.e = api.ErrCorrupt
		holds(t, x, want)
	}
}

func TestWhatMayNotBe(t *testing.T) {
	refused := course{[]access{{how: '-'}}, api.ErrCorrupt}
	for from := range 2 {
		for _, end := range []int{0, 1, 5, spine} {
			for _, spoil := range []func(c *conf.Conf){
				func(c *conf.Conf) { *c = conf.Conf{} },
				func(c *conf.Conf) { c.Frags = 3 },
				func(c *conf.Conf) { c.Spine = -1 },
				func(c *conf.Conf) { c.Spine = api.MaxSpine + 1 },
				func(c *conf.Conf) { c.Globals = 9 },
				func(c *conf.Conf) { c.Threads = 0 },
				func(c *conf.Conf) { c.Stack = 257 },
				func(c *conf.Conf) { c.Shapes = nil },
				func(c *conf.Conf) { c.Shapes[1].Refs = nil },
			} {
				x := lay(from, several()...)
				x.end = end
				spoil(&x.c)
				holds(t, x, refused)
			}
		}
		for _, n := range append(farOff(), 2, 3) {
			x := lay(from, several()...)
			x.from = n
			holds(t, x, refused)
			x.end = 0
			holds(t, x, refused)
		}
		for _, n := range farOff() {
			x := lay(from, several()...)
			x.end = n
			holds(t, x, refused)
		}
	}
}

// notFrag lists words that are no reference to a fragment of plain.
func notFrag() []complex128 {
	return []complex128{
		none, ref(frags), ref(frags + 1), ref(1023), ref(1024), ref(1 << 32), ref(1<<32 + 3), ref(1 << 40), ref(1<<40 + 1),
		0, 1, 4, complex(1, minus()), complex(4, -1), complex(4, 2), complex(4, 0.5), complex(4, math.NaN()),
		complex(4, math.Inf(1)), complex(4, math.Nextafter(1, 2)), complex(minus(), 1), complex(-4, 1), complex(3.5, 1),
		complex(math.Nextafter(4, 5), 1), complex(math.NaN(), 1), complex(math.Inf(1), 1), complex(math.Inf(-1), 1),
		complex(1<<53, 1), complex(1<<63, 1), complex(1e300, 1), complex(-1e300, 1), trash(),
	}
}

// notWhole lists words that are near to a whole number and are none, or are one
// that no spine has.
func notWhole(n int) []complex128 {
	x := float64(n)
	return []complex128{
		complex(x, minus()), complex(x, 1), complex(x, -1), complex(x, math.NaN()), complex(x, math.Inf(1)), complex(x+0.5, 0),
		complex(math.Nextafter(x, 1000), 0), complex(math.Nextafter(x, -1000), 0), complex(-x-1, 0), complex(minus(), 0),
		complex(math.NaN(), 0), complex(math.Inf(1), 0), complex(math.Inf(-1), 0), complex(1<<53, 0), complex(1<<62, 0),
		complex(1<<63, 0), complex(1e300, 0), complex(-1e300, 0), none, ref(n), trash(), whole(-1), whole(-2), whole(-3),
		whole(-1 << 53), whole(1 << 32), whole(1<<32 + n), whole(1<<53 - 2), whole(behind),
	}
}

// eachSpine calls f of each of several, with where it stands and how many steps
// there are ahead of it.
func eachSpine(f func(from, at, ahead, nth int)) {
	l := several()
	for from := range 2 {
		for nth := range l {
			f(from, begin(from)+length(l[:nth]), len(goes(from, 0, l[:nth]...).did), nth)
		}
	}
}

func TestWrongSentinels(t *testing.T) {
	l := several()
	eachSpine(func(from, at, ahead, nth int) {
		for _, w := range notFrag() {
			x := lay(from, l...)
			x.words[at] = w
			holds(t, x, goes(from, 0, l...).spoilt(ahead))
		}
	})
}

func TestWrongCounts(t *testing.T) {
	l := several()
	eachSpine(func(from, at, ahead, nth int) {
		most := length(l[nth:]) - 2
		for _, w := range append(notWhole(len(l[nth].slots)), whole(most+1), whole(most+2), whole(most+3)) {
			x := lay(from, l...)
			x.words[at+1] = w
			holds(t, x, goes(from, 0, l...).spoilt(ahead+1))
		}
		// What ends just where all ends is one spine.
		x := lay(from, l...)
		x.words[at+1] = whole(most)
		one := l[nth]
		one.slots = x.words[at+2 : at+2+most]
		holds(t, x, goes(from, 0, append(l[:nth:nth], one)...))
	})
}

// Whatever else the sentinel has where its spine is told, it is no error: the
// spine is left.
func TestSentinelsWithAnother(t *testing.T) {
	for from := range 2 {
		s := laid{head: 2, black: true, slots: refs(1, 6)}
		behindIt := laid{head: 3, black: true, slots: refs(1, 2)}
		at := begin(from)
		list := append(notWhole(at), whole(at+1), whole(at-1), whole(begin(1-from)), whole(0), whole(at-begin(0)+8*frags+spine*2))
		for _, w := range list {
			x := lay(from, s, behindIt)
			x.words[8*2+4] = w
			gone := s
			gone.left = true
			holds(t, x, goes(from, 0, gone, behindIt))
		}
	}
}

// Two spines of one sentinel: the one is copied that it has.
func TestSentinelsWithTwo(t *testing.T) {
	first, second := laid{head: 2, black: true, slots: refs(1, 6)}, laid{head: 2, black: true, slots: refs(9, 4)}
	x := lay(0, first, second)
	first.left = true
	holds(t, x, goes(0, 0, first, second))
	x.words[8*2+4] = whole(begin(0))
	first.left, second.left = false, true
	holds(t, x, goes(0, 0, first, second))
}

// Slots are copied whatever they are, bit by bit.
func TestSlots(t *testing.T) {
	list := []complex128{
		0, none, ref(0), ref(frags), ref(1 << 40), -1, 0.5, 1i, -1i, complex(minus(), minus()), complex(0, minus()), complex(minus(), 0),
		complex(math.Inf(1), math.Inf(-1)), complex(math.NaN(), 0), complex(0, math.NaN()), 1e300 + 1e-300i,
		complex(math.SmallestNonzeroFloat64, -math.MaxFloat64), whole(1 << 53),
	}
	for from := range 2 {
		s := laid{head: 7, black: true, slots: list}
		holds(t, lay(from, s), goes(from, 0, s))
	}
}

// runs lets a program run to its end.
func runs(t *testing.T, h *Haul, m *mem.Mem, s *shade.Shade, k *coil.Coil) {
	t.Helper()
	for range 20000 {
		if h.Step(m, s, k) {
			return
		}
	}
	t.Fatal("P17.1: it doesn't end")
}

// Only heads in use that are of the sense are black.
func TestColours(t *testing.T) {
	for _, sense := range []bool{false, true} {
		for _, x := range []struct {
			state  int
			head   bool
			colour bool
			moved  bool
		}{
			{api.Used, true, sense, true}, {api.Used, true, !sense, false}, {api.Used, false, sense, false},
			{api.Used, false, !sense, false}, {api.Cached, true, sense, false}, {api.Free, true, sense, false},
		} {
			l := laid{head: 7, black: x.moved, slots: refs(1, 3)}
			y := lay(0, l)
			h, m, s, k := New(y.c, 0, y.end, sense), memory(t, y.words), heads(t, y.black, sense), y.coil(t)
			s.Table().Set(7, x.state, x.head, x.colour)
			was := *s.Table()
			runs(t, h, m, s, k)
			isOver(t, h, m, s, k, goes(0, 0, l))
			if !reflect.DeepEqual(was, *s.Table()) || s.Len() != 0 || s.Lost() {
				t.Errorf("P17.2: %v: the shade is changed", x)
			}
		}
	}
}

// A shade of fewer fragments than the conf has, or of none, is no error.
func TestShadeThatIsTooSmall(t *testing.T) {
	for _, n := range []int{0, 3, 4, 12, 13} {
		l := several()
		x := lay(0, l...)
		h, m, s, k := New(x.c, 0, x.end, true), memory(t, x.words), heads(t, x.black[:n], true), x.coil(t)
		for i := range l {
			l[i].black = l[i].black && l[i].head < n
		}
		runs(t, h, m, s, k)
		isOver(t, h, m, s, k, goes(0, 0, l...))
	}
}

// Where the coil has not kept enough, it refuses the Copy, or the Skip.
func TestCoilThatRefuses(t *testing.T) {
	l := several()
	for from := range 2 {
		for left := range length(l) {
			x := lay(from, l...)
			x.left = left
			want, n := goes(from, 0, l...), 0
			for nth, a := range want.did {
				if a.how == 'c' || a.how == 's' {
					n += a.n
				}
				if n > left {
					want = want.spoilt(nth)
					break
				}
			}
			holds(t, x, want)
		}
	}
}

// A coil that is larger than the spaces: what it tells behind them is no word of
// theirs, and nothing is written there.
func TestCoilThatIsTooLarge(t *testing.T) {
	l := several()
	for from := range 2 {
		for _, current := range []int{0, 1} {
			for used := spine - length(l); used < spine+9; used++ {
				x := lay(from, l...)
				x.size, x.current, x.used = 200, current, used
				want := goes(from, used, l...)
				out := func(a access) bool { return a.how == 'w' && a.n >= begin(1-from)+spine }
				if nth := slices.IndexFunc(want.did, out); nth >= 0 {
					want = want.spoilt(nth)
					want.did[nth] = access{how: '-'}
				}
				holds(t, x, want)
			}
		}
	}
}

func TestMemoryThatIsTooSmall(t *testing.T) {
	l := several()
	for from := range 2 {
		for size := range words {
			x := lay(from, l...)
			x.words = x.words[:size]
			want := goes(from, 0, l...)
			out := func(a access) bool { return slices.Contains([]byte("rwe"), a.how) && a.n >= size }
			if nth := slices.IndexFunc(want.did, out); nth >= 0 {
				want = want.spoilt(nth)
			}
			holds(t, x, want)
		}
	}
}

// A memory may be another one with each step: then a copy can't be ended of which
// all else was done, and it is not one that was copied.
func TestMemoryThatIsGone(t *testing.T) {
	l := []laid{{head: 3, black: true, slots: refs(5, 5)}, {head: 10, black: true, slots: refs(5, 2)}}
	x := lay(0, l...)
	want := goes(0, 0, l...)
	for nth, a := range want.did {
		h, m, s, k := New(x.c, 0, x.end, true), memory(t, x.words), heads(t, x.black, true), x.coil(t)
		for range nth {
			h.Step(m, s, k)
		}
		if slices.Contains([]byte("rwe"), a.how) {
			m = memory(t, nil)
			h.Step(m, s, k)
			isOver(t, h, m, s, k, want.spoilt(nth))
		}
	}
}

func TestNothingHandedInIsChanged(t *testing.T) {
	c := plain()
	x := lay(0, several()...)
	runs(t, New(c, 0, x.end, true), memory(t, x.words), heads(t, x.black, true), x.coil(t))
	if !reflect.DeepEqual(c, plain()) {
		t.Errorf("P0.4: the conf handed in is %v now", c)
	}
}

func TestNothingHandedInIsKept(t *testing.T) {
	c := plain()
	l := several()
	x := lay(0, l...)
	h, m, s, k := New(c, 0, x.end, true), memory(t, x.words), heads(t, x.black, true), x.coil(t)
	for i := range c.Shapes {
		// No conf with these may be.
		c.Shapes[i] = shape.Shape{Array: true, Refs: make([]bool, 9)}
	}
	runs(t, h, m, s, k)
	isOver(t, h, m, s, k, goes(0, 0, l...))
}

// All that is in memory behind the end: what was copied, and the rest as it was.
func TestMemoryBehindIt(t *testing.T) {
	l := several()
	for from := range 2 {
		x := lay(from, l...)
		h, m, s, k := New(x.c, from, x.end, true), memory(t, x.words), heads(t, x.black, true), x.coil(t)
		runs(t, h, m, s, k)
		want := goes(from, 0, l...)
		isOver(t, h, m, s, k, want)
		for _, a := range want.did {
			if a.how == 'w' || a.how == 'e' {
				x.words[a.n] = a.w
			}
		}
		for a, w := range x.words {
			if !num.Same(m.Peek(a), w) {
				t.Errorf("P17.2, P17.3: the word %d is %v, not %v", a, m.Peek(a), w)
			}
		}
		if k.Left() != 0 || k.Used(1-from) != 7+2+5 || !k.Done() {
			t.Errorf("P17.2: the coil has %d kept, %d used", k.Left(), k.Used(1-from))
		}
	}
}

// Programs under way at once, each with a world of its own, hang on nothing but
// that.
func TestProgramsByTurns(t *testing.T) {
	type world struct {
		h    *Haul
		m    *mem.Mem
		s    *shade.Shade
		k    *coil.Coil
		want course
	}
	next := scattered(7)
	var worlds []world
	for i := range 40 {
		x := anyScene(next)
		sense := i%2 == 0
		worlds = append(worlds, world{
			New(x.c, x.from, x.end, sense), memory(t, x.words), heads(t, x.black, sense), x.coil(t), expected(x),
		})
	}
	for range 1000 {
		x := worlds[next(40)]
		x.h.Step(x.m, x.s, x.k)
	}
	for _, x := range worlds {
		runs(t, x.h, x.m, x.s, x.k)
		isOver(t, x.h, x.m, x.s, x.k, x.want)
	}
}

// arrays is a world of long arrays, with their spines in the space 0.
type arrays struct {
	c      conf.Conf
	m      *mem.Mem
	s      *shade.Shade
	k      *coil.Coil
	heads  []int
	length []int
	black  []bool
	at     map[[2]int]int // where an element of an array is
}

// manyArrays are arrays whose data fragments stand in no order.
func manyArrays(t *testing.T) *arrays {
	t.Helper()
	c := conf.Conf{
		Frags: 80, Spine: 60, Threads: 1, Locals: 1, Stack: 1,
		Shapes: []shape.Shape{{Array: true, Refs: []bool{true}}},
	}
	m, _ := mem.New(area.Words(c))
	s, _ := shade.New(c.Frags, 1)
	k, _ := coil.New(c.Spine)
	x := &arrays{c: c, m: m, s: s, k: k, at: map[[2]int]int{}}
	free := 79
	for i, n := range []int{33, 50, 41, 64, 39} {
		var got []int
		for range 1 + (n+7)/8 {
			got = append(got, free)
			free--
		}
		at, ok := k.Take(len(got) + 1)
		writes, e := plan.Array(c, 0, n, got, 8*c.Frags+at)
		if !ok || e != api.OK {
			t.Fatalf("P12.2: no array of %d: %d", n, e)
		}
		for _, w := range writes {
			m.Write(w.At, w.W)
		}
		black := i%3 != 1
		s.Table().Set(got[0], api.Used, true, black)
		x.heads, x.length, x.black = append(x.heads, got[0]), append(x.length, n), append(x.black, black)
		for e := range n {
			x.at[[2]int{got[0], e}] = 8*got[1+e/8] + e%8
		}
	}
	return x
}

// reader is a program that looks for an element, and where it must find it.
type reader struct {
	f  *find.Find
	at int
}

func (x *arrays) reader(i, elem int) reader {
	head := x.heads[i]
	return reader{find.Elem(x.c, head, elem), x.at[[2]int{head, elem}]}
}

func (r reader) check(t *testing.T) {
	t.Helper()
	if r.f.Errno() != api.OK || r.f.At() != r.at {
		t.Fatalf("P17.3: an element is at %d, error %d, not at %d", r.f.At(), r.f.Errno(), r.at)
	}
}

// Who reads between any two steps, or begins there and goes on while the copying
// does, finds each element where it is.
func TestReadersMeanwhile(t *testing.T) {
	for speed := 1; speed < 40; speed++ {
		x := manyArrays(t)
		n := x.k.Used(0)
		x.k.Turn()
		h := New(x.c, 0, n, true)
		var slow []reader
		for steps := 0; !h.Step(x.m, x.s, x.k); steps++ {
			for i, n := range x.length {
				r := x.reader(i, steps%n)
				for !r.f.Step(x.m) {
				}
				r.check(t)
				slow = append(slow, x.reader(i, (steps*7+i)%n))
			}
			if steps%speed > 0 {
				continue
			}
			for _, r := range slow {
				if r.f.Step(x.m) {
					r.check(t)
				}
			}
		}
		for _, r := range slow {
			for !r.f.Step(x.m) {
			}
			r.check(t)
		}
		if h.Errno() != api.OK || h.Moved() != 3 || !x.k.Done() {
			t.Fatalf("P17.2: error %d, %d moved", h.Errno(), h.Moved())
		}
		for i, head := range x.heads {
			a, ok := num.Int(x.m.Peek(8*head + 4))
			if moved := a >= 8*80+60; moved != x.black[i] || !ok {
				t.Fatalf("P17.3: the spine of %d is at %d", head, a)
			}
		}
	}
}

// Threads take spines of their own in the space that is filled, meanwhile, and
// nothing is laid over them.
func TestTakenMeanwhile(t *testing.T) {
	for seed := range 50 {
		next := scattered(uint64(seed))
		l := several()
		x := lay(0, l...)
		h, m, s, k := New(x.c, 0, x.end, true), memory(t, x.words), heads(t, x.black, true), x.coil(t)
		taken := map[int]bool{}
		for !h.Step(m, s, k) {
			if next(4) > 0 {
				continue
			}
			n := 1 + next(3)
			if at, ok := k.Take(n); ok {
				for i := range n {
					taken[space1+at+i] = true
					m.Write(space1+at+i, whole(-7))
				}
			}
		}
		for _, i := range []int{0, 2, 4} {
			at, _ := num.Int(m.Peek(8*l[i].head + 4))
			list := append([]complex128{ref(l[i].head), whole(len(l[i].slots))}, l[i].slots...)
			for j, w := range list {
				if at < space1 || !num.Same(m.Peek(at+j), w) || taken[at+j] {
					t.Fatalf("P17.2: the spine of %d at %d: word %d", l[i].head, at, j)
				}
			}
		}
		for a := range taken {
			if !num.Same(m.Peek(a), whole(-7)) {
				t.Fatalf("P17.2: the word %d is written over", a)
			}
		}
		if h.Errno() != api.OK || h.Moved() != 3 || k.Left() != 0 || k.Used(1) != 14+len(taken) {
			t.Fatalf("P17.2: error %d, %d moved, %d left, %d used", h.Errno(), h.Moved(), k.Left(), k.Used(1))
		}
	}
}

// There and back, again and again: what dies between is not copied any more.
func TestThereAndBack(t *testing.T) {
	x := manyArrays(t)
	for round := range 8 {
		from, sense := round%2, round%2 == 0
		left := 0
		for i, head := range x.heads {
			live := x.black[i] && i != round
			x.black[i] = live
			x.s.Table().Set(head, api.Used, true, live == sense)
			if live {
				left++
			}
		}
		n := x.k.Used(from)
		x.k.Turn()
		h := New(x.c, from, n, sense)
		runs(t, h, x.m, x.s, x.k)
		if h.Errno() != api.OK || h.Moved() != left || !x.k.Done() {
			t.Fatalf("P17.2: round %d: error %d, %d moved, not %d", round, h.Errno(), h.Moved(), left)
		}
		for i, n := range x.length {
			for e := range n {
				if r := x.reader(i, e); x.black[i] {
					for !r.f.Step(x.m) {
					}
					r.check(t)
				}
			}
		}
	}
}

// walk is a course under way, by what any words whatever tell.
type walk struct {
	course
	*scene
	to, kept int
}

// expected is what the promises ask for of any words whatever, each one looked
// for among all that it may be.
func expected(x *scene) course {
	y := &walk{scene: x, to: x.used, kept: x.left}
	fine := conf.Check(x.c) == api.OK && (x.from == 0 || x.from == 1) && 0 <= x.end && x.end <= x.c.Spine
	if !fine || x.end == 0 {
		y.add('-', 0, 0)
	}
	for at := 0; fine && at < x.end; {
		n := y.spine(at)
		at += n
		fine = n > 0
	}
	if !fine {
		y.e = api.ErrCorrupt
	}
	return y.course
}

// is answers whether there is such a word, behind an access to it.
func (x *walk) is(how byte, a int, w complex128) bool {
	x.add(how, a, w)
	return a < len(x.words)
}

// spine answers how many words it has, 0 if it may not be.
func (x *walk) spine(at int) int {
	old := 8*x.c.Frags + x.from*x.c.Spine + at
	if !x.is('r', old, 0) {
		return 0
	}
	head := amongst(x.c.Frags, x.words[old], ref)
	if head < 0 {
		return 0
	}
	if at+1 == x.c.Spine {
		x.add('-', 0, 0)
		return 0
	}
	if !x.is('r', old+1, 0) {
		return 0
	}
	count := amongst(x.end-at-1, x.words[old+1], whole)
	if count < 0 {
		return 0
	}
	n := count + 2
	x.add('b', head, 0)
	mine := false
	if x.black[head] {
		if !x.is('r', 8*head+4, 0) {
			return 0
		}
		mine = num.Same(x.words[8*head+4], whole(old))
	}
	if mine && x.copy(old, head, count) || !mine && x.keep('s', n) {
		return n
	}
	return 0
}

// keep answers whether so many are kept; they are no longer.
func (x *walk) keep(how byte, n int) bool {
	x.add(how, n, 0)
	if n > x.kept {
		return false
	}
	x.kept -= n
	return true
}

func (x *walk) copy(old, head, count int) bool {
	if !x.keep('c', count+2) {
		return false
	}
	base := 8*x.c.Frags + (1-x.from)*x.c.Spine
	at := base + x.to
	write := func(a int, w complex128) bool {
		if a >= base+x.c.Spine {
			x.add('-', 0, 0)
			return false
		}
		return x.is('w', a, w)
	}
	if !write(at, ref(head)) || !write(at+1, whole(count)) {
		return false
	}
	for i := range count {
		if !x.is('r', old+2+i, 0) || !write(at+2+i, x.words[old+2+i]) {
			return false
		}
	}
	x.to += count + 2
	return x.is('e', 8*head+4, whole(at))
}

// amongst looks for the number below count whose word w is; -1, if there is
// none.
func amongst(count int, w complex128, as func(int) complex128) int {
	for n := range count {
		if num.Same(as(n), w) {
			return n
		}
	}
	return -1
}

// anyScene is a scene in which many things are as they must be, and some are not.
func anyScene(next func(int) int) *scene {
	from := next(2)
	var l []laid
	for length(l) < spine-8 && next(9) > 0 {
		l = append(l, laid{head: next(frags), slots: refs(next(frags), next(7))})
	}
	x := lay(from, l...)
	for i := range x.black {
		x.black[i] = next(3) > 0
	}
	for range next(3) / 2 {
		x.words[begin(from)+next(spine)] = []complex128{none, trash(), whole(next(9)), ref(next(frags))}[next(4)]
	}
	if next(8) == 0 {
		x.end = max(0, min(spine, x.end+next(5)-2))
	}
	if next(8) == 0 {
		x.left = max(0, x.left-next(9))
	}
	if next(4) == 0 {
		x.size = 3 * spine
	}
	x.used = next(x.size - x.left + 1)
	x.current = next(2)
	if next(10) == 0 {
		x.words = x.words[:len(x.words)-next(spine*2)]
	}
	return x
}

func TestAnyWords(t *testing.T) {
	next := scattered(2026)
	ends := map[api.Errno]map[int]bool{api.OK: {}, api.ErrCorrupt: {}}
	for range 6000 {
		x := anyScene(next)
		want := expected(x)
		holds(t, x, want)
		ends[want.e][len(want.did)] = true
	}
	// So that courses of many lengths are there that end well, and that do not.
	if len(ends[api.OK]) < 40 || len(ends[api.ErrCorrupt]) < 40 {
		t.Errorf("only ends at %v", ends)
	}
}
