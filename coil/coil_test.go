package coil

import (
	"math"
	"slices"
	"testing"

	"spolia/api"
)

const bound = 2048 // the greatest space

// state is all that a coil tells of itself: the current space, the words used
// there and in the other one, and those that are kept.
type state struct {
	size, current, used, other, left int
}

// room is what must be left for Take.
func (s state) room() int { return s.size - s.used - s.left }

// fresh is a coil of two spaces of n words that may be.
func fresh(t *testing.T, n int) *Coil {
	t.Helper()
	c, e := New(n)
	if c == nil || e != api.OK {
		t.Fatalf("P11.1: New(%d): a coil: %t, %d", n, c != nil, e)
	}
	return c
}

// made is a coil in that state, brought there by Take, Turn and Skip.
func made(t *testing.T, s state) *Coil {
	t.Helper()
	c := fresh(t, s.size)
	// The spaces are turned once below, and a turn of empty ones is free.
	ok := s.current == 1 || c.Turn()
	ok = ok && takes(c, s.other) && c.Turn()
	ok = ok && (s.other == s.left || c.Skip(s.other-s.left)) && takes(c, s.used)
	if !ok {
		t.Fatalf("P11: %+v is not come to", s)
	}
	holds(t, "as made", c, s)
	return c
}

// takes takes n words, if any, and answers whether it could.
func takes(c *Coil, n int) bool {
	if n == 0 {
		return true
	}
	_, ok := c.Take(n)
	return ok
}

// states lists all that coils of up to most words may be in.
func states(most int) []state {
	var l []state
	for size := range most + 1 {
		for other := range size + 1 {
			for left := range other + 1 {
				for used := range size - left + 1 {
					l = append(l, state{size, 0, used, other, left}, state{size, 1, used, other, left})
				}
			}
		}
	}
	return l
}

// counts lists all numbers about those that a coil of n words may take, and
// some far off that would wrap to such ones.
func counts(n int) []int {
	l := []int{
		math.MinInt, math.MinInt + 1, math.MinInt + 2, math.MinInt32, -1 << 32, 1 - 1<<32, -255, -n, -n - 1,
		n + 256, 257, 1<<16 + 1, bound, bound + 1, math.MaxInt32, 1 << 32, 1<<32 + 1, 1 << 62, math.MaxInt - n, math.MaxInt - 1, math.MaxInt,
	}
	for k := -2; k <= 2*n+2; k++ {
		l = append(l, k)
	}
	return l
}

// scattered answers a function that tells numbers of any bits, the same ones in
// every run.
func scattered() func() uint64 {
	seed := uint64(11)
	return func() uint64 {
		seed += 0x9E3779B97F4A7C15
		z := (seed ^ seed>>30) * 0xBF58476D1CE4E5B9
		z = (z ^ z>>27) * 0x94D049BB133111EB
		return z ^ z>>31
	}
}

// holds fails the test unless the coil is in that state, asked twice, since
// asking changes nothing.
func holds(t *testing.T, what string, c *Coil, want state) {
	t.Helper()
	for range 2 {
		if want.current != c.Current() || c.Used(want.current) != want.used || c.Used(1-want.current) != want.other {
			t.Fatalf("P11.1: %s: Current is %d, Used %d and %d, of %+v", what, c.Current(), c.Used(0), c.Used(1), want)
		}
		if c.Left() != want.left {
			t.Fatalf("P11.2: %s: Left is %d, of %+v", what, c.Left(), want)
		}
		if c.Room() != want.room() {
			t.Fatalf("P11.1: %s: Room is %d, of %+v", what, c.Room(), want)
		}
	}
}

// takeIs fails the test unless Take(n) is as it must be; it answers the state
// behind it.
func takeIs(t *testing.T, c *Coil, n int, s state) state {
	t.Helper()
	at, ok := c.Take(n)
	if n < 1 || n > s.room() {
		if ok || at != 0 {
			t.Fatalf("P11.1: Take(%d) of %+v is %d, %t", n, s, at, ok)
		}
	} else {
		if !ok || at != s.used {
			t.Fatalf("P11.1: Take(%d) of %+v is %d, %t", n, s, at, ok)
		}
		s.used += n
	}
	holds(t, "behind Take", c, s)
	return s
}

// copyIs fails the test unless Copy(n) is as it must be; it answers the state
// behind it.
func copyIs(t *testing.T, c *Coil, n int, s state) state {
	t.Helper()
	at, ok := c.Copy(n)
	if n < 1 || n > s.left {
		if ok || at != 0 {
			t.Fatalf("P11.2: Copy(%d) of %+v is %d, %t", n, s, at, ok)
		}
	} else {
		if !ok || at != s.used {
			t.Fatalf("P11.3: Copy(%d) of %+v is %d, %t", n, s, at, ok)
		}
		s.left -= n
		s.used += n
	}
	holds(t, "behind Copy", c, s)
	return s
}

// skipIs fails the test unless Skip(n) is as it must be; it answers the state
// behind it.
func skipIs(t *testing.T, c *Coil, n int, s state) state {
	t.Helper()
	want := n >= 1 && n <= s.left
	if c.Skip(n) != want {
		t.Fatalf("P11.2: Skip(%d) of %+v is %t", n, s, !want)
	}
	if want {
		s.left -= n
	}
	holds(t, "behind Skip", c, s)
	return s
}

// turnIs fails the test unless Turn is as it must be; it answers the state
// behind it.
func turnIs(t *testing.T, c *Coil, s state) state {
	t.Helper()
	want := s.other == 0
	if c.Turn() != want {
		t.Fatalf("P11.2: Turn of %+v is %t", s, !want)
	}
	if want {
		s = state{size: s.size, current: 1 - s.current, other: s.used, left: s.used}
	}
	holds(t, "behind Turn", c, s)
	return s
}

// doneIs fails the test unless Done is as it must be; it answers the state
// behind it.
func doneIs(t *testing.T, c *Coil, s state) state {
	t.Helper()
	want := s.left == 0
	if c.Done() != want {
		t.Fatalf("P11.2: Done of %+v is %t", s, !want)
	}
	if want {
		s.other = 0
	}
	holds(t, "behind Done", c, s)
	return s
}

func TestExample(t *testing.T) {
	c := fresh(t, 5)
	c.Take(3)
	c.Turn()
	if c.Left() != 3 || c.Room() != 2 {
		t.Errorf("P11.2: Left is %d, Room is %d", c.Left(), c.Room())
	}
}

func TestNew(t *testing.T) {
	for n := range bound + 1 {
		holds(t, "a new coil", fresh(t, n), state{size: n})
	}
}

func TestNewOutOfBounds(t *testing.T) {
	if api.MaxSpine != bound {
		t.Fatalf("P11.1: MaxSpine is %d", api.MaxSpine)
	}
	for _, n := range []int{
		-1, -2, -bound, math.MinInt32, math.MinInt, math.MinInt + 1, -1 << 32, 1 - 1<<32, 1 - 1<<16,
		bound + 1, bound + 2, 2 * bound, 1 << 16, 1<<16 + 1, math.MaxInt32, 1 << 32, 1<<32 + 1, 1 << 62, math.MaxInt - 1, math.MaxInt,
	} {
		if c, e := New(n); c != nil || e != api.ErrRange {
			t.Errorf("P11.1: New(%d): a coil: %t, %d", n, c != nil, e)
		}
	}
}

// TestUsedOfNone: there are two spaces, whatever is used of them.
func TestUsedOfNone(t *testing.T) {
	for _, s := range []state{{size: 9}, {9, 0, 4, 5, 3}, {9, 1, 4, 5, 3}, {9, 1, 9, 9, 0}} {
		c := made(t, s)
		for _, space := range []int{-1, -2, -255, 2, 3, 4, 256, 257, 1 << 16, 1 << 32, 1<<32 + 1, -1 << 32, 1 - 1<<32, math.MinInt, math.MinInt + 1, math.MaxInt - 1, math.MaxInt} {
			if n := c.Used(space); n != 0 {
				t.Errorf("P11.1: Used(%d) of %+v is %d", space, s, n)
			}
		}
	}
}

// The calls with a number, with each number in each state of small coils.

func TestTake(t *testing.T) {
	for _, s := range states(5) {
		for _, n := range counts(s.size) {
			takeIs(t, made(t, s), n, s)
		}
	}
}

func TestCopy(t *testing.T) {
	for _, s := range states(5) {
		for _, n := range counts(s.size) {
			copyIs(t, made(t, s), n, s)
		}
	}
}

func TestSkip(t *testing.T) {
	for _, s := range states(5) {
		for _, n := range counts(s.size) {
			skipIs(t, made(t, s), n, s)
		}
	}
}

// TestTurnAndDone: in each state, a Turn, a Done, and each behind the other.
func TestTurnAndDone(t *testing.T) {
	for _, s := range states(8) {
		c := made(t, s)
		turnIs(t, c, doneIs(t, c, turnIs(t, c, s)))
		c = made(t, s)
		doneIs(t, c, turnIs(t, c, doneIs(t, c, s)))
	}
}

// TestRefusedCalls: all that are refused, one behind the other, change nothing.
func TestRefusedCalls(t *testing.T) {
	for _, s := range []state{{size: 0}, {7, 0, 2, 5, 5}, {7, 1, 3, 7, 4}, {7, 1, 0, 7, 7}} {
		c := made(t, s)
		for _, n := range counts(s.size) {
			if n < 1 || n > s.room() {
				takeIs(t, c, n, s)
			}
			if n < 1 || n > s.left {
				copyIs(t, c, n, s)
				skipIs(t, c, n, s)
			}
		}
		if s.left > 0 {
			turnIs(t, c, s)
			doneIs(t, c, s)
		}
	}
}

// TestEmptySpaces: a space that is empty may be left, again and again.
func TestEmptySpaces(t *testing.T) {
	for _, n := range []int{0, 1, 5, bound} {
		c, s := fresh(t, n), state{size: n}
		for range 5 {
			s = turnIs(t, c, doneIs(t, c, s))
			s = turnIs(t, c, turnIs(t, c, s))
			s = copyIs(t, c, 1, skipIs(t, c, 1, s))
		}
		if s.current != 1 {
			t.Fatalf("P11.2: fifteen turns on %d is the current one", s.current)
		}
		takeIs(t, c, n, s)
	}
}

// TestTurnWaitsForDone: a space whose words were all copied or skipped is not
// empty ahead of Done.
func TestTurnWaitsForDone(t *testing.T) {
	c, s := fresh(t, 6), state{size: 6}
	s = turnIs(t, c, takeIs(t, c, 4, s))
	s = turnIs(t, c, copyIs(t, c, 3, s))
	s = turnIs(t, c, skipIs(t, c, 1, s))
	if s.current != 1 || s.other != 4 {
		t.Fatalf("P11.2: ahead of Done: %+v", s)
	}
	s = turnIs(t, c, doneIs(t, c, s))
	if s.current != 0 || s.left != 3 {
		t.Fatalf("P11.2: behind Done: %+v", s)
	}
	// A Done that is refused leaves what was left as it was.
	s = doneIs(t, c, s)
	if s.other != 3 {
		t.Fatalf("P11.2: behind a Done that is refused: %+v", s)
	}
}

// TestCopyHasRoom: whatever is taken behind a Turn, all that was used may be
// copied, in pieces of any length.
func TestCopyHasRoom(t *testing.T) {
	for _, size := range []int{1, 2, 7, 40, bound - 1, bound} {
		for _, used := range []int{1, size/2 + 1, size} {
			for _, piece := range []int{1, 3, used} {
				c, s := fresh(t, size), state{size: size}
				s = turnIs(t, c, takeIs(t, c, used, s))
				s = takeIs(t, c, size-used, s)
				s = takeIs(t, c, 1, s)
				for s.left > 0 {
					s = copyIs(t, c, min(piece, s.left), s)
				}
				s = doneIs(t, c, takeIs(t, c, 1, s))
				if s != (state{size: size, current: 1, used: size}) {
					t.Fatalf("P11.3: all copied: %+v", s)
				}
			}
		}
	}
}

// TestSkipGivesRoom: what is not copied may be taken, and nothing else.
func TestSkipGivesRoom(t *testing.T) {
	c, s := fresh(t, bound), state{size: bound}
	s = turnIs(t, c, takeIs(t, c, bound, s))
	for n := 1; s.left > 0; n++ {
		s = takeIs(t, c, 1, s)
		n = min(n, s.left)
		s = takeIs(t, c, n+1, skipIs(t, c, n, s))
		s = takeIs(t, c, n, s)
	}
	if s.used != bound {
		t.Fatalf("P11.1: all skipped and taken: %+v", s)
	}
}

// plain is a coil told otherwise: whose each word of the spaces is, and the
// spines that are still to be copied, as their lengths.
type plain struct {
	words   [2][]int
	current int
	spines  [2][]int
	copies  []int
}

func (p *plain) state(size int) state {
	left := 0
	for _, n := range p.copies {
		left += n
	}
	return state{size, p.current, len(p.words[p.current]), len(p.words[1-p.current]), left}
}

// lay lays a spine into the current space, as number id.
func (p *plain) lay(n, id int) {
	p.words[p.current] = append(p.words[p.current], slices.Repeat([]int{id}, n)...)
	p.spines[p.current] = append(p.spines[p.current], n)
}

func (p *plain) turn() {
	p.copies = slices.Clone(p.spines[p.current])
	p.current = 1 - p.current
}

func (p *plain) done() { p.words[1-p.current], p.spines[1-p.current] = nil, nil }

// isAt fails the test unless the spine id, laid behind all others, begins there.
func (p *plain) isAt(t *testing.T, at, id int) {
	t.Helper()
	if want := slices.Index(p.words[p.current], id); want != at {
		t.Fatalf("P11.3: a spine is laid at %d, where %d words are used", at, want)
	}
}

// TestLongRun fills, turns and copies spines of all lengths, many times round:
// no spine lies upon another one.
func TestLongRun(t *testing.T) {
	for _, size := range []int{1, 3, 30, 200, bound} {
		c, p, next := fresh(t, size), &plain{}, scattered()
		for id := 1; id <= 6000; id++ {
			s, n := p.state(size), 1+int(next()%uint64(size/4+1))
			switch kind := next() % 8; {
			case kind < 3:
				if at, ok := c.Take(n); ok {
					p.lay(n, id)
					p.isAt(t, at, id)
				} else if n <= s.room() {
					t.Fatalf("P11.1: Take(%d) of %+v is refused", n, s)
				}
			case kind < 7 && len(p.copies) > 0:
				n, p.copies = p.copies[0], p.copies[1:]
				if kind == 3 {
					skipIs(t, c, n, s)
				} else if at, ok := c.Copy(n); ok {
					p.lay(n, id)
					p.isAt(t, at, id)
				} else {
					t.Fatalf("P11.3: Copy(%d) of %+v is refused", n, s)
				}
			case len(p.copies) == 0:
				doneIs(t, c, s)
				p.done()
				if kind == 7 {
					turnIs(t, c, p.state(size))
					p.turn()
				}
			default:
				turnIs(t, c, s)
				doneIs(t, c, s)
			}
			holds(t, "one more call", c, p.state(size))
		}
	}
}

// TestAnyCalls makes calls of all kinds with any numbers.
func TestAnyCalls(t *testing.T) {
	for _, size := range []int{0, 1, 2, 5, 40} {
		c, s, next := fresh(t, size), state{size: size}, scattered()
		for range 20000 {
			n := int(next()%uint64(size+4)) - 2
			switch next() % 5 {
			case 0:
				s = takeIs(t, c, n, s)
			case 1:
				s = copyIs(t, c, n, s)
			case 2:
				s = skipIs(t, c, n, s)
			case 3:
				s = turnIs(t, c, s)
			default:
				s = doneIs(t, c, s)
			}
			if s.used+s.left > size || c.Used(c.Current())+c.Left() > size || c.Used(1-c.Current()) > size {
				t.Fatalf("P11.3: more than a space has: %+v", s)
			}
		}
	}
}

// TestCoilsStandApart: what is done with one shows in no other one.
func TestCoilsStandApart(t *testing.T) {
	first, second := fresh(t, 8), fresh(t, 6)
	first.Take(5)
	second.Take(6)
	first.Turn()
	New(-1)
	third := fresh(t, 4)
	first.Copy(2)
	first.Take(1)
	holds(t, "the third", third, state{size: 4})
	holds(t, "the second", second, state{size: 6, used: 6})
	holds(t, "the first", first, state{8, 1, 3, 5, 3})
}
