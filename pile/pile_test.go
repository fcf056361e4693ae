package pile

import (
	"math"
	"slices"
	"testing"

	"spolia/api"
)

const bound = 256 // the greatest pile

// model is what a pile must have, written another way: the top one ahead.
type model struct {
	most int
	laid []int
	lost bool
}

// push answers whether i comes on top of what must be there.
func (m *model) push(i int) bool {
	if len(m.laid)+1 > m.most {
		m.lost = true
		return false
	}
	m.laid = slices.Insert(m.laid, 0, i)
	return true
}

// pop answers what must be on top.
func (m *model) pop() (int, bool) {
	for _, top := range m.laid {
		m.laid = slices.Delete(m.laid, 0, 1)
		return top, true
	}
	return 0, false
}

// fresh is a pile with room for most, that may be.
func fresh(t *testing.T, most int) *Pile {
	t.Helper()
	p, e := New(most)
	if p == nil || e != api.OK {
		t.Fatalf("P14.1: New(%d): a pile: %t, %d", most, p != nil, e)
	}
	return p
}

// made is a pile with room for most, onto which these were pushed.
func made(t *testing.T, most int, l ...int) *Pile {
	t.Helper()
	p := fresh(t, most)
	for _, i := range l {
		if !p.Push(i) {
			t.Fatalf("P14.1: Push(%d) of %v onto a pile for %d is refused", i, l, most)
		}
	}
	return p
}

// numbers lists n numbers from first on.
func numbers(first, n int) []int {
	l := make([]int, n)
	for i := range l {
		l[i] = first + i
	}
	return l
}

// scattered answers a function that tells numbers of any bits, the same ones in
// every run.
func scattered() func() uint64 {
	state := uint64(14)
	return func() uint64 {
		state += 0x9E3779B97F4A7C15
		z := (state ^ state>>30) * 0xBF58476D1CE4E5B9
		z = (z ^ z>>27) * 0x94D049BB133111EB
		return z ^ z>>31
	}
}

// standsAs fails the test unless so many are there, and something is lost or
// not, asked twice, since asking changes nothing.
func standsAs(t *testing.T, what string, p *Pile, n int, lost bool) {
	t.Helper()
	for range 2 {
		if p.Len() != n || p.Lost() != lost {
			t.Fatalf("P14.1: %s: Len is %d, Lost is %t, not %d, %t", what, p.Len(), p.Lost(), n, lost)
		}
	}
}

// popIs fails the test unless the top one is as it must be.
func popIs(t *testing.T, what string, p *Pile, want int) {
	t.Helper()
	if i, ok := p.Pop(); i != want || !ok {
		t.Fatalf("P14.2: %s: Pop is %d, %t, not %d", what, i, ok, want)
	}
}

// popIsNone fails the test unless nothing is there, and nothing beside it.
func popIsNone(t *testing.T, what string, p *Pile) {
	t.Helper()
	for range 2 {
		if i, ok := p.Pop(); i != 0 || ok {
			t.Fatalf("P14.1: %s: Pop of none is %d, %t", what, i, ok)
		}
	}
}

// holds fails the test unless all of l are popped, the last one first, and none
// behind them; what is lost stays so all the while.
func holds(t *testing.T, what string, p *Pile, lost bool, l []int) {
	t.Helper()
	standsAs(t, what, p, len(l), lost)
	for n := len(l) - 1; n >= 0; n-- {
		popIs(t, what, p, l[n])
		standsAs(t, what+", popped", p, n, lost)
	}
	popIsNone(t, what, p)
	standsAs(t, what+", empty", p, 0, lost)
}

func TestExample(t *testing.T) {
	p := fresh(t, 1)
	if !p.Push(4) || p.Push(5) {
		t.Error("P14.1: New(1): the first Push is true, the second one false")
	}
	holds(t, "New(1), two pushed", p, true, []int{4})
}

func TestNew(t *testing.T) {
	for most := 1; most <= bound; most++ {
		holds(t, "a new pile", fresh(t, most), false, nil)
	}
}

func TestNewOutOfBounds(t *testing.T) {
	if api.MaxStack != bound {
		t.Fatalf("P14.1: MaxStack is %d", api.MaxStack)
	}
	for _, most := range []int{
		0, -1, -2, -255, -256, -257, math.MinInt32, 1 - 1<<16, 1 - 1<<32, -1 << 32, math.MinInt, math.MinInt + 1,
		bound + 1, bound + 2, 2 * bound, 2*bound + 1, 1 << 16, 1<<16 + 1, math.MaxInt32, 1 << 32, 1<<32 + 1, 1<<32 + bound,
		1 << 62, math.MaxInt - 1, math.MaxInt,
	} {
		if p, e := New(most); p != nil || e != api.ErrRange {
			t.Errorf("P14.1: New(%d): a pile: %t, %d", most, p != nil, e)
		}
	}
}

// TestPushUpToTheMost fills a pile of each size: the last one that there is room
// for is laid, each one past it is lost, and leaves those that are there.
func TestPushUpToTheMost(t *testing.T) {
	for most := 1; most <= bound; most++ {
		p := fresh(t, most)
		for i := range most {
			if !p.Push(100 + i) {
				t.Fatalf("P14.1: Push onto %d of %d is refused", i, most)
			}
			standsAs(t, "behind Push", p, i+1, false)
		}
		for i := range 3 {
			if p.Push(-1 - i) {
				t.Fatalf("P14.1: Push onto a full pile of %d", most)
			}
			standsAs(t, "behind one too many", p, most, true)
		}
		holds(t, "a full pile", p, true, numbers(100, most))
	}
}

// TestAnyNumbers: a pile looks at none of them; one that is there already comes
// once more, and a 0 that is there is told from none.
func TestAnyNumbers(t *testing.T) {
	l := []int{0, -1, math.MinInt, math.MaxInt, 0, 0, 7, 7, 1 << 40, 1<<32 + 7, 256, -7, 1024, math.MaxInt32 + 1, 0}
	holds(t, "any numbers", made(t, len(l), l...), false, l)
	for _, i := range l {
		p := made(t, 1, i)
		if p.Push(i) {
			t.Errorf("P14.1: Push(%d) onto a full pile that has it", i)
		}
		holds(t, "one number", p, true, []int{i})
	}
}

// TestLostStays: neither room nor what is pushed and popped afterwards makes
// something that is lost found.
func TestLostStays(t *testing.T) {
	p := made(t, 2, 1, 2)
	p.Push(3)
	popIs(t, "one lost", p, 2)
	standsAs(t, "one lost, one popped", p, 1, true)
	if !p.Push(4) {
		t.Error("P14.1: Push where there is room again")
	}
	standsAs(t, "one lost, one pushed", p, 2, true)
	holds(t, "one lost", p, true, []int{1, 4})
	if !p.Push(5) {
		t.Error("P14.1: Push onto an empty pile")
	}
	holds(t, "one lost long ago", p, true, []int{5})
}

// TestFound: behind it nothing is lost, however many were, and all that is there
// stays; the next one that there is no room for is lost anew.
func TestFound(t *testing.T) {
	for most := 1; most <= bound; most++ {
		want := numbers(-3, most)
		p := made(t, most, want...)
		for round := range 4 {
			for range round + 1 {
				if p.Push(50) {
					t.Fatalf("P14.1: Push onto a full pile of %d", most)
				}
				standsAs(t, "one too many", p, most, true)
			}
			p.Found()
			standsAs(t, "behind Found", p, most, false)
		}
		holds(t, "behind Found", p, false, want)
	}
}

// TestFoundWhereNothingIsLost changes nothing, and keeps nothing for later.
func TestFoundWhereNothingIsLost(t *testing.T) {
	p := fresh(t, 2)
	p.Found()
	standsAs(t, "an empty pile, Found", p, 0, false)
	p.Push(8)
	p.Found()
	p.Found()
	standsAs(t, "a pile of one, Found", p, 1, false)
	p.Push(9)
	p.Found()
	if p.Push(10) {
		t.Error("P14.1: Push onto a full pile behind Found")
	}
	holds(t, "Found ahead of a loss", p, true, []int{8, 9})
}

// TestPopOfNone loses nothing, and takes no room away or brings some.
func TestPopOfNone(t *testing.T) {
	for _, most := range []int{1, 2, 3, bound} {
		p := fresh(t, most)
		for round := range 3 {
			popIsNone(t, "an empty pile", p)
			standsAs(t, "behind Pop of none", p, 0, false)
			want := numbers(10*round, most)
			for _, i := range want {
				if !p.Push(i) {
					t.Fatalf("P14.1: Push(%d) behind Pop of none, room for %d", i, most)
				}
			}
			if p.Push(-1) {
				t.Fatalf("P14.1: Push onto a full pile of %d", most)
			}
			holds(t, "behind Pop of none", p, true, want)
			p.Found()
		}
	}
}

// TestLastInFirstOut goes up and down by all counts: what is pushed where others
// were popped comes out in their stead.
func TestLastInFirstOut(t *testing.T) {
	for most := 1; most <= 12; most++ {
		for up := 1; up <= most; up++ {
			for down := 1; down <= up; down++ {
				want := numbers(30, up)
				p := made(t, most, want...)
				for range down {
					popIs(t, "on the way down", p, want[len(want)-1])
					want = want[:len(want)-1]
				}
				for i := 70; len(want) < most; i++ {
					p.Push(i)
					want = append(want, i)
				}
				holds(t, "up once more", p, false, want)
			}
		}
	}
}

// TestAllShortRuns makes all runs of up to nine calls on the smallest piles.
func TestAllShortRuns(t *testing.T) {
	const calls, kinds = 9, 3
	runs := 1
	for range calls {
		runs *= kinds
	}
	for most := 1; most <= 3; most++ {
		for run := range runs {
			p, want := fresh(t, most), &model{most: most}
			for n, rest := 0, run; n < calls; n, rest = n+1, rest/kinds {
				oneCall(t, p, want, rest%kinds, n)
			}
		}
	}
}

// TestLongRun makes calls of all kinds, more often up and more often down by
// turns, so that piles of all sizes are full and empty many times.
func TestLongRun(t *testing.T) {
	for _, most := range []int{1, 2, 3, 7, 8, 9, 64, 255, 256} {
		p, want, next := fresh(t, most), &model{most: most}, scattered()
		for n := range 20000 {
			kind := int(next() % 8)
			if kind > 2 {
				kind = n / (2 * most) % 2
			}
			oneCall(t, p, want, kind, int(next()))
		}
		laid := slices.Clone(want.laid)
		slices.Reverse(laid)
		holds(t, "the end", p, want.lost, laid)
	}
}

// oneCall makes a call of the kind on a pile and on the model, and fails the
// test unless both answer the same.
func oneCall(t *testing.T, p *Pile, want *model, kind, i int) {
	t.Helper()
	switch kind {
	case 0:
		if got, ok := p.Push(i), want.push(i); got != ok {
			t.Fatalf("P14.1: Push(%d) is %t, %d of %d are there", i, got, len(want.laid), want.most)
		}
	case 1:
		got, is := p.Pop()
		top, ok := want.pop()
		if got != top || is != ok {
			t.Fatalf("P14.2: Pop is %d, %t, not %d, %t", got, is, top, ok)
		}
	default:
		p.Found()
		want.lost = false
	}
	standsAs(t, "one more call", p, len(want.laid), want.lost)
}

// TestPilesStandApart: what is pushed onto one, or lost by it, shows in no other
// one.
func TestPilesStandApart(t *testing.T) {
	first, second := made(t, 2, 1, 2), fresh(t, 3)
	first.Push(3)
	standsAs(t, "the second", second, 0, false)
	second.Push(9)
	New(0)
	third := fresh(t, 1)
	third.Push(6)
	third.Push(7)
	second.Found()
	standsAs(t, "the third", third, 1, true)
	first.Pop()
	first.Push(8)
	second.Push(5)
	holds(t, "the third", third, true, []int{6})
	holds(t, "the second", second, false, []int{9, 5})
	holds(t, "the first", first, true, []int{1, 8})
}
