package stock

import (
	"math"
	"slices"
	"testing"

	"spolia/api"
)

const bound = 8 // the greatest stock

// fresh is a stock with room for most, that may be.
func fresh(t *testing.T, most int) *Stock {
	t.Helper()
	s, e := New(most)
	if s == nil || e != api.OK {
		t.Fatalf("P9.1: New(%d): a stock: %t, %d", most, s != nil, e)
	}
	return s
}

// made is a stock with room for most, into which these were put.
func made(t *testing.T, most int, l ...int) *Stock {
	t.Helper()
	s := fresh(t, most)
	if !s.Put(l...) {
		t.Fatalf("P9.1: Put of %v into room for %d is refused", l, most)
	}
	return s
}

// numbers lists n numbers from first on.
func numbers(first, n int) []int {
	l := make([]int, n)
	for i := range l {
		l[i] = first + i
	}
	return l
}

// scattered answers a function that tells numbers of any bits, the same ones in
// every run.
func scattered() func() uint64 {
	state := uint64(9)
	return func() uint64 {
		state += 0x9E3779B97F4A7C15
		z := (state ^ state>>30) * 0xBF58476D1CE4E5B9
		z = (z ^ z>>27) * 0x94D049BB133111EB
		return z ^ z>>31
	}
}

// below1 lists counts below 1, some of which would wrap to one above.
func below1() []int {
	return []int{0, -1, -2, -3, -bound, math.MinInt, math.MinInt + 1, math.MinInt + 2, math.MinInt32, -1 << 32, 1 - 1<<32, -254}
}

// tooMany lists counts above n, some of which would wrap to one below.
func tooMany(n int) []int {
	return []int{n + 1, n + 2, 2*n + 1, n + 256, bound + 1, 1<<16 + 1, math.MaxInt32, 1<<32 + 1, 1<<32 + 2, 1 << 62, math.MaxInt - 1, math.MaxInt}
}

// counts fails the test unless so many are there and as many more may be as are
// left of most, asked twice, since asking changes nothing.
func counts(t *testing.T, what string, s *Stock, most, n int) {
	t.Helper()
	for range 2 {
		if s.Len() != n || s.Room() != most-n {
			t.Fatalf("P9.1: %s: Len is %d, Room is %d, of %d in %d", what, s.Len(), s.Room(), n, most)
		}
	}
}

// putIs fails the test unless Put(l) is as it must be in a stock for most that
// has those of want; it answers what is there behind it.
func putIs(t *testing.T, s *Stock, most int, l, want []int) []int {
	t.Helper()
	fits := len(want)+len(l) <= most
	if s.Put(l...) != fits {
		t.Fatalf("P9.1: Put of %v behind %v, at most %d, is %t", l, want, most, !fits)
	}
	if !fits {
		return want
	}
	return slices.Concat(want, l)
}

// takeIs fails the test unless Take(k) is as it must be; it answers the list,
// and what is there behind it.
func takeIs(t *testing.T, s *Stock, k int, want []int) (got, rest []int) {
	t.Helper()
	got, ok := s.Take(k)
	if k < 1 || k > len(want) {
		if ok || len(got) != 0 {
			t.Fatalf("P9.1: Take(%d) of %v is %v, %t", k, want, got, ok)
		}
		return got, want
	}
	if !ok || !slices.Equal(got, want[:k]) {
		t.Fatalf("P9.1: Take(%d) of %v is %v, %t", k, want, got, ok)
	}
	return got, slices.Clone(want[k:])
}

// drainIs fails the test unless Drain is all that must be there, and none is
// left, nor taken a second time.
func drainIs(t *testing.T, what string, s *Stock, most int, want []int) []int {
	t.Helper()
	got := s.Drain()
	if !slices.Equal(got, want) {
		t.Fatalf("P9.1: %s: Drain is %v, of %v", what, got, want)
	}
	counts(t, what+", drained", s, most, 0)
	if again := s.Drain(); len(again) != 0 {
		t.Fatalf("P9.1: %s: Drain once more is %v", what, again)
	}
	return got
}

func TestNew(t *testing.T) {
	for most := range bound + 1 {
		s := fresh(t, most)
		counts(t, "a new stock", s, most, 0)
		for _, k := range []int{1, most, most + 1} {
			takeIs(t, s, k, nil)
		}
		counts(t, "a new stock that was asked", s, most, 0)
		drainIs(t, "a new stock", s, most, nil)
	}
}

func TestNewOutOfBounds(t *testing.T) {
	if api.MaxCache != bound {
		t.Fatalf("P9.1: MaxCache is %d", api.MaxCache)
	}
	for _, most := range []int{
		-1, -2, -bound, math.MinInt32, math.MinInt, math.MinInt + 1, -1 << 32, -256, 1 - 256,
		bound + 1, bound + 2, 2 * bound, 256, 1 << 16, math.MaxInt32, 1 << 32, 1<<32 + 1, 1 << 62, math.MaxInt - 1, math.MaxInt,
	} {
		if s, e := New(most); s != nil || e != api.ErrRange {
			t.Errorf("P9.1: New(%d): a stock: %t, %d", most, s != nil, e)
		}
	}
}

// TestPut puts each number of them into each stock that has some, up to past
// its room: all come behind the others, or none.
func TestPut(t *testing.T) {
	for most := range bound + 1 {
		for has := range most + 1 {
			for more := range bound + 3 {
				want := numbers(40, has)
				s := made(t, most, want...)
				want = putIs(t, s, most, numbers(7, more), want)
				counts(t, "behind Put", s, most, len(want))
				drainIs(t, "behind Put", s, most, want)
			}
		}
	}
}

func TestPutMany(t *testing.T) {
	for _, more := range []int{9, 16, 255, 256, 257, 264, 1 << 16, 1<<16 + 1} {
		s := made(t, bound, 3, 1, 2)
		if s.Put(numbers(0, more)...) {
			t.Errorf("P9.1: Put of %d", more)
		}
		counts(t, "behind too many", s, bound, 3)
		drainIs(t, "behind too many", s, bound, []int{3, 1, 2})
	}
}

// TestPutOfNone: none are never more than there is room for.
func TestPutOfNone(t *testing.T) {
	for most := range bound + 1 {
		s := made(t, most, numbers(5, most)...)
		if !s.Put() || !s.Put(nil...) || !s.Put([]int{}...) {
			t.Errorf("P9.1: Put of none into a full stock of %d", most)
		}
		counts(t, "behind none", s, most, most)
		drainIs(t, "behind none", s, most, numbers(5, most))
	}
}

// TestAnyNumbers: a stock looks at how many they are, at none of them; one that
// is there already comes once more.
func TestAnyNumbers(t *testing.T) {
	l := []int{0, -1, math.MinInt, math.MaxInt, 0, 7, 7, 1 << 40}
	s := made(t, bound, l...)
	_, rest := takeIs(t, s, 5, l)
	rest = putIs(t, s, bound, []int{7, -1, 0}, rest)
	drainIs(t, "any numbers", s, bound, rest)
}

// TestTake takes each count from each stock.
func TestTake(t *testing.T) {
	for most := range bound + 1 {
		for has := range most + 1 {
			for k := -1; k <= bound+2; k++ {
				want := numbers(20, has)
				s := made(t, most, want...)
				_, want = takeIs(t, s, k, want)
				counts(t, "behind Take", s, most, len(want))
				drainIs(t, "behind Take", s, most, want)
			}
		}
	}
}

func TestCountsThatAreNone(t *testing.T) {
	for has := range bound + 1 {
		want := numbers(60, has)
		s := made(t, bound, want...)
		for _, k := range slices.Concat(below1(), tooMany(has)) {
			takeIs(t, s, k, want)
			counts(t, "behind a count that is none", s, bound, has)
		}
		drainIs(t, "behind counts that are none", s, bound, want)
	}
}

// TestDrain: a drained stock is as a new one.
func TestDrain(t *testing.T) {
	for most := range bound + 1 {
		s := fresh(t, most)
		for round := range 3 {
			want := putIs(t, s, most, numbers(100*round, most), nil)
			putIs(t, s, most, []int{1}, want)
			drainIs(t, "a full stock", s, most, want)
		}
	}
}

// TestFirstInFirstOut puts and takes by all counts, many times round: they come
// out in the order in which they came in.
func TestFirstInFirstOut(t *testing.T) {
	for in := 1; in <= bound; in++ {
		for out := 1; out <= bound; out++ {
			s, came, gone := fresh(t, bound), 0, 0
			for range 50 {
				if s.Put(numbers(came, in)...) {
					came += in
				}
				if l, ok := s.Take(out); ok {
					if !slices.Equal(l, numbers(gone, out)) {
						t.Fatalf("P9.2: %d in, %d out: %v, where %d is next", in, out, l, gone)
					}
					gone += out
				}
				counts(t, "one more round", s, bound, came-gone)
			}
			if l := s.Drain(); !slices.Equal(l, numbers(gone, came-gone)) {
				t.Fatalf("P9.2: %d in, %d out: at the end %v, where %d is next", in, out, l, gone)
			}
		}
	}
}

// TestWhatIsHandedIn: a list that was put is not changed, nor what lies behind
// it, and what is written into it afterwards shows nowhere.
func TestWhatIsHandedIn(t *testing.T) {
	whole := numbers(10, 12)
	s := fresh(t, bound)
	s.Put(whole[:3]...)
	s.Put(whole[3:5]...)
	s.Put(77)
	s.Take(1)
	s.Put(78)
	Side(whole[:4])
	if !slices.Equal(whole, numbers(10, 12)) {
		t.Fatalf("P0.4: a list that was handed in is %v", whole)
	}
	clear(whole)
	drainIs(t, "a list that was put written into", s, bound, []int{11, 12, 13, 14, 77, 78})
	whole = numbers(10, 8)
	s.Put(whole[:4]...)
	l := s.Drain()
	l[0] = -7
	_ = append(l, -8)
	if !slices.Equal(whole, numbers(10, 8)) {
		t.Fatalf("P0.4: a list that was handed in is %v", whole)
	}
}

// TestListsAreNewMemory: what a caller writes into a list, or appends to it,
// shows in no other list and not in the stock.
func TestListsAreNewMemory(t *testing.T) {
	s := made(t, bound, numbers(0, 8)...)
	first, _ := s.Take(3)
	second, _ := s.Take(1)
	s.Put(8, 9)
	third := s.Drain()
	s.Put(10, 11, 12)
	fourth := s.Drain()
	s.Put(13, 14)
	fifth, _ := s.Take(2)
	s.Put(15, 16, 17)
	lists := [][]int{first, second, third, fourth, fifth}
	want := [][]int{{0, 1, 2}, {3}, {4, 5, 6, 7, 8, 9}, {10, 11, 12}, {13, 14}}
	for i := range lists {
		if !slices.Equal(lists[i], want[i]) {
			t.Fatalf("P9.2: the list %d is %v", i, lists[i])
		}
	}
	for i := range lists {
		whole := lists[i][:cap(lists[i])]
		for j := range whole {
			whole[j] = -7
		}
		for j := i + 1; j < len(lists); j++ {
			if !slices.Equal(lists[j], want[j]) {
				t.Errorf("P0.4: the list %d shows in the list %d", i, j)
			}
		}
	}
	drainIs(t, "lists written into", s, bound, []int{15, 16, 17})
}

// TestLaterCallsLeaveLists: what a stock does later shows in no list that it
// handed out.
func TestLaterCallsLeaveLists(t *testing.T) {
	s := made(t, bound, numbers(0, 6)...)
	taken, _ := s.Take(2)
	s.Put(20, 21, 22, 23)
	all := s.Drain()
	s.Put(numbers(30, 8)...)
	s.Take(8)
	s.Put(numbers(40, 8)...)
	if !slices.Equal(taken, []int{0, 1}) || !slices.Equal(all, []int{2, 3, 4, 5, 20, 21, 22, 23}) {
		t.Errorf("P0.4: lists handed out are %v, %v", taken, all)
	}
}

// TestLongRun makes calls of all kinds, on a stock and on a list.
func TestLongRun(t *testing.T) {
	for most := range bound + 1 {
		s, next, came := fresh(t, most), scattered(), 0
		var want []int
		for range 8000 {
			k := int(next()%11) - 1
			switch next() % 16 {
			case 0:
				drainIs(t, "one more call", s, most, want)
				want = nil
			case 1, 2, 3, 4, 5, 6, 7:
				_, want = takeIs(t, s, k, want)
			default:
				l := numbers(came, max(k, 0))
				came += len(l)
				want = putIs(t, s, most, l, want)
			}
			counts(t, "one more call", s, most, len(want))
		}
		drainIs(t, "the end", s, most, want)
	}
}

// TestStocksStandApart: what is put into one shows in no other one.
func TestStocksStandApart(t *testing.T) {
	first, second := fresh(t, 4), fresh(t, 6)
	first.Put(1, 2, 3)
	second.Put(first.Drain()...)
	first.Put(9, 8)
	New(-1)
	third := fresh(t, 5)
	first.Take(1)
	counts(t, "the third", third, 5, 0)
	drainIs(t, "the second", second, 6, []int{1, 2, 3})
	drainIs(t, "the first", first, 4, []int{8})
}

func TestSideExample(t *testing.T) {
	if Side([]int{3, 4, 6}) {
		t.Error("P9.1: Side of 3, 4, 6")
	}
}

func TestSide(t *testing.T) {
	for _, c := range []struct {
		l    []int
		want bool
	}{
		{nil, true}, {[]int{}, true},
		{[]int{0}, true}, {[]int{-1}, true}, {[]int{math.MinInt}, true}, {[]int{math.MaxInt}, true},
		{[]int{3, 4}, true}, {[]int{3, 3}, false}, {[]int{4, 3}, false}, {[]int{3, 5}, false}, {[]int{0, 0}, false},
		{[]int{-1, 0}, true}, {[]int{-2, -1, 0, 1}, true}, {[]int{1, -1}, false}, {[]int{0, -1}, false}, {[]int{-3, -4}, false},
		{[]int{2, 4, 5}, false}, {[]int{3, 4, 4}, false}, {[]int{3, 4, 3}, false}, {[]int{5, 3, 4}, false}, {[]int{3, 5, 4}, false},
		{[]int{1, 2, 3, 5, 6, 7}, false}, {[]int{1, 2, 3, 3, 4, 5}, false}, {[]int{1, 3, 2, 4}, false},
		{[]int{math.MaxInt - 2, math.MaxInt - 1, math.MaxInt}, true}, {[]int{math.MinInt, math.MinInt + 1, math.MinInt + 2}, true},
		{[]int{math.MaxInt, math.MinInt}, false}, {[]int{math.MaxInt - 1, math.MaxInt, math.MinInt}, false}, {[]int{math.MinInt, math.MaxInt}, false},
		{[]int{math.MaxInt, math.MinInt, math.MinInt + 1}, false}, {[]int{math.MaxInt, math.MaxInt}, false}, {[]int{math.MinInt, math.MinInt}, false},
		{[]int{math.MaxInt32, math.MaxInt32 + 1}, true}, {[]int{math.MaxInt32, math.MinInt32}, false}, {[]int{255, 256}, true}, {[]int{255, 0}, false},
		{[]int{0, 1<<32 + 1}, false}, {[]int{0, 257}, false},
	} {
		if got := Side(c.l); got != c.want {
			t.Errorf("P9.1: Side of %v is %t", c.l, got)
		}
	}
}

// TestSideOfMany: one that is out of its place is seen wherever it stands.
func TestSideOfMany(t *testing.T) {
	for _, n := range []int{2, 3, 8, 9, 64, 1024} {
		if !Side(numbers(-5, n)) {
			t.Errorf("P9.1: Side of %d", n)
		}
		for i := range n {
			for _, off := range []int{-1, 1} {
				l := numbers(-5, n)
				l[i] += off
				if Side(l) {
					t.Errorf("P9.1: Side of %d, the one at %d off by %d", n, i, off)
				}
			}
		}
	}
}
