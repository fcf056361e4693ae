package pool

import (
	"math"
	"slices"
	"testing"

	"spolia/api"
)

const bound = 1024 // the greatest pool

// fresh is a pool of n fragments that may be.
func fresh(t *testing.T, n int) *Pool {
	t.Helper()
	p, e := New(n)
	if p == nil || e != api.OK {
		t.Fatalf("P8.1: New(%d): a pool: %t, %d", n, p != nil, e)
	}
	return p
}

// made is a pool of as many fragments as the list has, of which those are free
// that it says, whatever they were taken by.
func made(t *testing.T, want []bool) *Pool {
	t.Helper()
	p := fresh(t, len(want))
	for range want {
		if _, ok := p.Take(1); !ok {
			t.Fatalf("P8.1: Take(1) of %d, %d are free", len(want), p.Free())
		}
	}
	for i, free := range want {
		if free && !p.Give(i) {
			t.Fatalf("P8.1: Give(%d) of %d is refused", i, len(want))
		}
	}
	return p
}

// only lists of n fragments that just these are free.
func only(n int, free ...int) []bool {
	l := make([]bool, n)
	for _, i := range free {
		l[i] = true
	}
	return l
}

// every lists n fragments that are free.
func every(n int) []bool {
	l := make([]bool, n)
	for i := range l {
		l[i] = true
	}
	return l
}

// bits lists n fragments, free where pattern has a bit.
func bits(n int, pattern uint) []bool {
	l := make([]bool, n)
	for i := range l {
		l[i] = pattern>>i&1 == 1
	}
	return l
}

// lowest answers the numbers of the k lowest free ones, or of all.
func lowest(l []bool, k int) []int {
	var low []int
	for i, free := range l {
		if free && len(low) < k {
			low = append(low, i)
		}
	}
	return low
}

// run answers where the highest k side by side begin: -1, if there are none. It
// tries each place from its words alone.
func run(l []bool, k int) int {
	highest := -1
	for at := 0; k >= 1 && at <= len(l)-k; at++ {
		if !slices.Contains(l[at:at+k], false) {
			highest = at
		}
	}
	return highest
}

// taken answers what Take(k) must answer: none, if it is refused.
func taken(l []bool, k int) []int {
	if k < 1 || k > len(lowest(l, len(l))) {
		return nil
	}
	at := run(l, k)
	if at < 0 {
		return lowest(l, k)
	}
	var side []int
	for i := range k {
		side = append(side, at+i)
	}
	return side
}

// drop lists as not free what was taken.
func drop(l []bool, gone []int) {
	for _, i := range gone {
		l[i] = false
	}
}

// scattered answers a function that tells numbers of any bits, the same ones in
// every run.
func scattered() func() uint64 {
	state := uint64(8)
	return func() uint64 {
		state += 0x9E3779B97F4A7C15
		z := (state ^ state>>30) * 0xBF58476D1CE4E5B9
		z = (z ^ z>>27) * 0x94D049BB133111EB
		return z ^ z>>31
	}
}

// missing lists numbers of fragments that a pool of n doesn't have, some of
// which would wrap to one that it has.
func missing(n int) []int {
	return []int{
		-1, -2, -n - 1, -bound, -bound - 1, math.MinInt, math.MinInt + 1, math.MinInt32, -1 << 32, -1 << 16,
		n, n + 1, 2*n + 1, n + 256, n + bound, bound, bound + 1, 1 << 16, math.MaxInt32, 1 << 32, 1<<32 + 1, 1 << 62, math.MaxInt - 1, math.MaxInt,
	}
}

// below1 lists counts below 1, some of which would wrap to one above.
func below1() []int {
	return []int{0, -1, -2, -3, -bound, math.MinInt, math.MinInt + 1, math.MinInt + 2, math.MinInt32, -1 << 32, 1 - 1<<32, -254}
}

// tooMany lists counts above n, some of which would wrap to one below.
func tooMany(n int) []int {
	return []int{n + 1, n + 2, 2*n + 1, n + 256, bound + 1, 1<<16 + 1, math.MaxInt32, 1<<32 + 1, 1<<32 + 2, 1 << 62, math.MaxInt - 1, math.MaxInt}
}

// holds fails the test unless the pool is as the list says, asked twice, since
// asking changes nothing.
func holds(t *testing.T, what string, p *Pool, want []bool) {
	t.Helper()
	for range 2 {
		if got := p.Free(); got != len(lowest(want, len(want))) {
			t.Fatalf("P8.1: %s: Free is %d, of %v", what, got, want)
		}
		for i, free := range want {
			if p.Has(i) != free {
				t.Fatalf("P8.1: %s: Has(%d) is %t, of %v", what, i, !free, want)
			}
		}
	}
}

// runIs fails the test unless Run(k) is as the list says.
func runIs(t *testing.T, p *Pool, k int, want []bool) {
	t.Helper()
	at, ok := p.Run(k)
	if begin := run(want, k); at != max(begin, 0) || ok != (begin >= 0) {
		t.Fatalf("P8.1: Run(%d) of %v is %d, %t", k, want, at, ok)
	}
}

// takeIs fails the test unless Take(k) is as the list says, and takes it there.
func takeIs(t *testing.T, p *Pool, k int, want []bool) []int {
	t.Helper()
	got, ok := p.Take(k)
	l := taken(want, k)
	if !slices.Equal(got, l) || ok != (len(l) > 0) {
		t.Fatalf("P8.1: Take(%d) of %v is %v, %t", k, want, got, ok)
	}
	drop(want, l)
	return got
}

// lowIs fails the test unless Low(k) is as the list says, and takes it there.
func lowIs(t *testing.T, p *Pool, k int, want []bool) []int {
	t.Helper()
	got := p.Low(k)
	l := lowest(want, k)
	if !slices.Equal(got, l) {
		t.Fatalf("P8.1: Low(%d) of %v is %v", k, want, got)
	}
	drop(want, l)
	return got
}

// giveIs fails the test unless Give(i) is as the list says, and gives it there.
func giveIs(t *testing.T, p *Pool, i int, want []bool) {
	t.Helper()
	gives := i >= 0 && i < len(want) && !want[i]
	if p.Give(i) != gives {
		t.Fatalf("P8.1: Give(%d) is %t, of %v", i, !gives, want)
	}
	if gives {
		want[i] = true
	}
}

func TestExample(t *testing.T) {
	if l, ok := fresh(t, 5).Take(2); !ok || !slices.Equal(l, []int{3, 4}) {
		t.Errorf("P8.1: Take(2) of New(5) is %v, %t", l, ok)
	}
}

func TestNew(t *testing.T) {
	for _, n := range []int{0, 1, 2, 7, 8, 9, 63, 64, 65, 255, 256, 257, bound - 1, bound} {
		p := fresh(t, n)
		holds(t, "a new pool", p, every(n))
		for i := range n {
			if p.Give(i) {
				t.Fatalf("P8.1: Give(%d) of a new pool of %d", i, n)
			}
		}
		for _, k := range []int{1, 2, n - 1, n, n + 1} {
			runIs(t, p, k, every(n))
		}
		holds(t, "a new pool that was asked", p, every(n))
	}
}

func TestNewOutOfBounds(t *testing.T) {
	for _, n := range []int{
		-1, -2, -bound, math.MinInt32, math.MinInt, math.MinInt + 1, -1 << 32,
		bound + 1, bound + 2, 2 * bound, 1 << 16, math.MaxInt32, 1 << 32, 1<<32 + 1, 1 << 62, math.MaxInt - 1, math.MaxInt,
	} {
		if p, e := New(n); p != nil || e != api.ErrRange {
			t.Errorf("P8.1: New(%d): a pool: %t, %d", n, p != nil, e)
		}
	}
}

// TestNoSuchFragment asks pools of taken fragments and of free ones, so that
// whatever were written or read by mistake would show.
func TestNoSuchFragment(t *testing.T) {
	for _, n := range []int{0, 1, 5, 64, bound} {
		for _, want := range [][]bool{every(n), only(n), bits(n, 0x55555555)} {
			p := made(t, want)
			for _, i := range missing(n) {
				if i >= 0 && i < n {
					continue
				}
				if p.Has(i) || p.Give(i) {
					t.Errorf("P8.1: a pool of %d has or takes %d", n, i)
				}
			}
			holds(t, "behind calls for no fragment", p, want)
		}
	}
}

func TestCountsThatAreNone(t *testing.T) {
	for _, want := range [][]bool{only(0), every(1), only(6), every(6), only(6, 1, 2, 5), every(bound)} {
		p := made(t, want)
		for _, k := range below1() {
			if at, ok := p.Run(k); ok || at != 0 {
				t.Errorf("P8.1: Run(%d) is %d, %t", k, at, ok)
			}
			if l, ok := p.Take(k); ok || len(l) != 0 {
				t.Errorf("P8.1: Take(%d) is %v, %t", k, l, ok)
			}
			if l := p.Low(k); len(l) != 0 {
				t.Errorf("P8.1: Low(%d) is %v", k, l)
			}
			holds(t, "behind a count below 1", p, want)
		}
	}
}

// TestMoreThanAreFree: Take answers nothing, and takes nothing; Low takes all.
func TestMoreThanAreFree(t *testing.T) {
	for _, want := range [][]bool{only(0), every(1), only(6), every(6), only(6, 1, 2, 5), every(bound)} {
		free := lowest(want, len(want))
		for _, k := range tooMany(len(free)) {
			p := made(t, want)
			if at, ok := p.Run(k); ok || at != 0 {
				t.Errorf("P8.1: Run(%d) of %d is %d, %t", k, len(free), at, ok)
			}
			if l, ok := p.Take(k); ok || len(l) != 0 {
				t.Errorf("P8.1: Take(%d) of %d is %v, %t", k, len(free), l, ok)
			}
			holds(t, "behind too many", p, want)
			if l := p.Low(k); !slices.Equal(l, free) {
				t.Errorf("P8.1: Low(%d) of %d is %v", k, len(free), l)
			}
			holds(t, "behind all", p, only(len(want)))
		}
	}
}

// TestEveryPattern asks each pool of up to nine fragments, whatever is free in
// it, for each count.
func TestEveryPattern(t *testing.T) {
	for n := range 10 {
		for pattern := range uint(1) << n {
			for k := -1; k <= n+1; k++ {
				want := bits(n, pattern)
				p := made(t, want)
				runIs(t, p, k, want)
				holds(t, "behind Run", p, want)
				takeIs(t, p, k, want)
				holds(t, "behind Take", p, want)
				want = bits(n, pattern)
				p = made(t, want)
				lowIs(t, p, k, want)
				holds(t, "behind Low", p, want)
			}
		}
	}
}

// TestHighestRun: a run is taken at the upper end of what lies side by side,
// and a longer one below is passed by, but a lone one above too.
func TestHighestRun(t *testing.T) {
	free := []int{0, 1, 2, 3, 6, 7, 8, 11, 12, 15}
	for _, c := range []struct{ k, at int }{{1, 15}, {2, 11}, {3, 6}, {4, 0}} {
		p := made(t, only(16, free...))
		if at, ok := p.Run(c.k); at != c.at || !ok {
			t.Errorf("P8.1: Run(%d) is %d, %t", c.k, at, ok)
		}
		if l, ok := p.Take(c.k); !ok || len(l) != c.k || l[0] != c.at || l[c.k-1] != c.at+c.k-1 {
			t.Errorf("P8.1: Take(%d) is %v, %t", c.k, l, ok)
		}
	}
	if l, ok := made(t, only(16, free...)).Take(5); !ok || !slices.Equal(l, free[:5]) {
		t.Errorf("P8.1: Take(5) is %v, %t", l, ok)
	}
}

// TestNotTakenTwice: whichever call took one, none answers it again until it
// was given, and it is given once.
func TestNotTakenTwice(t *testing.T) {
	const n = 30
	for _, k := range []int{1, 2, 3, 7} {
		p, want := fresh(t, n), every(n)
		var out []int
		for p.Free() > 0 {
			out = append(out, takeIs(t, p, min(k, p.Free()), want)...)
			out = append(out, lowIs(t, p, k, want)...)
			holds(t, "behind Take and Low", p, want)
		}
		slices.Sort(out)
		if !slices.Equal(out, lowest(every(n), n)) {
			t.Fatalf("P8.2: by %d each are taken: %v", k, out)
		}
		for _, i := range out {
			if !p.Give(i) || p.Give(i) || !p.Has(i) {
				t.Fatalf("P8.2: %d is not given, or twice", i)
			}
			if l, ok := p.Take(1); !ok || !slices.Equal(l, []int{i}) {
				t.Fatalf("P8.2: Take(1), as %d alone is free, is %v, %t", i, l, ok)
			}
		}
	}
}

// TestListsAreNewMemory: what a caller writes into a list, or appends to it,
// shows in no other list and not in the pool.
func TestListsAreNewMemory(t *testing.T) {
	p, want := fresh(t, 12), every(12)
	lists := [][]int{
		takeIs(t, p, 3, want), lowIs(t, p, 2, want), takeIs(t, p, 2, want), lowIs(t, p, 1, want), lowIs(t, p, 99, want),
	}
	for i := range lists {
		whole := lists[i][:cap(lists[i])]
		others := make([][]int, len(lists))
		for j := range lists {
			others[j] = slices.Clone(lists[j])
		}
		for j := range whole {
			whole[j] = -7
		}
		for j := range lists {
			if j != i && !slices.Equal(lists[j], others[j]) {
				t.Errorf("P0.4: the list %d shows in the list %d", i, j)
			}
		}
		holds(t, "behind lists that were written into", p, want)
	}
	for i := range want {
		giveIs(t, p, i, want)
	}
	holds(t, "given back", p, want)
}

// TestLongRun makes calls of all kinds, on a pool and on a list.
func TestLongRun(t *testing.T) {
	for _, n := range []int{1, 5, 24, 70} {
		p, want, next := fresh(t, n), every(n), scattered()
		for range 8000 {
			k := int(next()%9) - 1
			switch next() % 8 {
			case 0, 1:
				takeIs(t, p, k, want)
			case 2:
				lowIs(t, p, k, want)
			case 3:
				runIs(t, p, k, want)
			default:
				giveIs(t, p, int(next()%uint64(n+4))-2, want)
			}
			holds(t, "one more call", p, want)
		}
	}
}

func TestGreatest(t *testing.T) {
	p, want := fresh(t, bound), every(bound)
	takeIs(t, p, bound, want)
	holds(t, "all taken", p, want)
	for i := 0; i < bound; i += 2 {
		giveIs(t, p, i, want)
	}
	for _, k := range []int{1, 2, bound / 2, bound/2 + 1} {
		runIs(t, p, k, want)
	}
	takeIs(t, p, bound/2, want)
	holds(t, "those that lay apart taken", p, want)
	for i := bound - 1; i >= 0; i-- {
		giveIs(t, p, i, want)
	}
	lowIs(t, p, bound, want)
	holds(t, "all taken as the lowest", p, want)
}

// TestPoolsStandApart: what is taken from one shows in no other one.
func TestPoolsStandApart(t *testing.T) {
	first, second := fresh(t, 4), fresh(t, 4)
	first.Take(2)
	first.Low(1)
	first.Give(3)
	New(-1)
	third := fresh(t, 4)
	holds(t, "the first", first, only(4, 1, 3))
	holds(t, "the second", second, every(4))
	holds(t, "the third", third, every(4))
}
