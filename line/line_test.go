package line

import (
	"math"
	"slices"
	"testing"
)

// came is a request of a thread as it stands in the line when it was added.
func came(thread, frags, spine int) Req {
	return Req{Thread: thread, Frags: frags, Spine: spine, State: Waiting, At: -1}
}

// with answers the request in that state, behind so many cycles.
func with(r Req, state, cycles int) Req {
	r.State, r.Cycles = state, cycles
	return r
}

// got answers the request granted with these.
func got(r Req, at int, l ...int) Req {
	r.State, r.At, r.Got = Granted, at, l
	return r
}

// made is a line to which these threads came, each with requests of its own.
func made(t *testing.T, threads ...int) *Line {
	t.Helper()
	l := New()
	for _, thread := range threads {
		if !l.Add(asked(thread)) {
			t.Fatalf("P10.1: Add of thread %d is refused", thread)
		}
	}
	return l
}

// asked is the request that made adds for a thread.
func asked(thread int) Req { return came(thread, 100+thread, 200+thread) }

// numbers lists n numbers from first on.
func numbers(first, n int) []int {
	l := make([]int, n)
	for i := range l {
		l[i] = first + i
	}
	return l
}

// scattered answers a function that tells numbers of any bits, the same ones in
// every run.
func scattered() func() uint64 {
	state := uint64(10)
	return func() uint64 {
		state += 0x9E3779B97F4A7C15
		z := (state ^ state>>30) * 0xBF58476D1CE4E5B9
		z = (z ^ z>>27) * 0x94D049BB133111EB
		return z ^ z>>31
	}
}

func same(a, b Req) bool {
	return a.Thread == b.Thread && a.Frags == b.Frags && a.Spine == b.Spine &&
		a.State == b.State && a.Cycles == b.Cycles && a.At == b.At && slices.Equal(a.Got, b.Got)
}

// ofIs fails the test unless Of(thread) is the one of want, or none.
func ofIs(t *testing.T, what string, l *Line, thread int, want []Req) {
	t.Helper()
	r, ok := l.Of(thread)
	i := slices.IndexFunc(want, func(w Req) bool { return w.Thread == thread })
	if i < 0 {
		if ok || !same(r, Req{}) {
			t.Fatalf("P10.1: %s: Of(%d) is %v, %t, where there is none", what, thread, r, ok)
		}
		return
	}
	if !ok || !same(r, want[i]) {
		t.Fatalf("P10.1: %s: Of(%d) is %v, %t, not %v", what, thread, r, ok, want[i])
	}
}

// firstIs fails the test unless First is the first of want that waits, or none.
func firstIs(t *testing.T, what string, l *Line, want []Req) {
	t.Helper()
	r, ok := l.First()
	i := slices.IndexFunc(want, func(w Req) bool { return w.State == Waiting })
	if i < 0 {
		if ok || !same(r, Req{}) {
			t.Fatalf("P10.1: %s: First is %v, %t, where none waits", what, r, ok)
		}
		return
	}
	if !ok || !same(r, want[i]) {
		t.Fatalf("P10.4: %s: First is %v, %t, not %v", what, r, ok, want[i])
	}
}

// holds fails the test unless the line has these and no other one, asked twice,
// since asking changes nothing.
func holds(t *testing.T, what string, l *Line, want ...Req) {
	t.Helper()
	waits := 0
	for _, w := range want {
		if w.State == Waiting {
			waits++
		}
	}
	for range 2 {
		for thread := -2; thread <= 18; thread++ {
			ofIs(t, what, l, thread, want)
		}
		for _, w := range want {
			ofIs(t, what, l, w.Thread, want)
		}
		firstIs(t, what, l, want)
		if n := l.Waits(); n != waits {
			t.Fatalf("P10.1: %s: Waits is %d, of %d", what, n, waits)
		}
	}
}

// orderIs fails the test unless these wait in this order, and no other one; they
// wait no more then.
func orderIs(t *testing.T, what string, l *Line, threads ...int) {
	t.Helper()
	for i, thread := range threads {
		r, ok := l.First()
		if !ok || r.Thread != thread || l.Waits() != len(threads)-i || !l.Fail() {
			t.Fatalf("P10.4: %s: the one at %d of %v is %v, %t", what, i, threads, r, ok)
		}
	}
	if r, ok := l.First(); ok || l.Waits() != 0 {
		t.Fatalf("P10.4: %s: behind %v waits %v", what, threads, r)
	}
}

// noted fails the test unless one cycle gives one more to these threads alone.
func noted(t *testing.T, what string, l *Line, threads ...int) {
	t.Helper()
	before := make([]int, 19)
	for thread := range before {
		r, _ := l.Of(thread)
		before[thread] = r.Cycles
	}
	l.End()
	for thread := range before {
		want := before[thread]
		if slices.Contains(threads, thread) {
			want++
		}
		if r, _ := l.Of(thread); r.Cycles != want {
			t.Fatalf("P10.2: %s: thread %d has %d cycles, not %d", what, thread, r.Cycles, want)
		}
	}
}

func TestStates(t *testing.T) {
	if Waiting != 0 || Granted != 1 || Failed != 2 {
		t.Errorf("P10.1: the states are %d, %d, %d", Waiting, Granted, Failed)
	}
}

func TestNew(t *testing.T) {
	l := New()
	if l == nil {
		t.Fatal("P10.1: New is nil")
	}
	holds(t, "a new line", l)
	if l.Grant(nil, -1) || l.Grant([]int{1}, 0) || l.Fail() {
		t.Error("P10.1: Grant or Fail in a new line")
	}
	for _, thread := range []int{0, -1, 1, 15, math.MinInt, math.MaxInt} {
		if l.Drop(thread) {
			t.Errorf("P10.1: Drop(%d) in a new line", thread)
		}
	}
	l.Begin()
	l.End()
	l.End()
	holds(t, "a new line that was asked", l)
}

// TestAdd: what a request says of itself but its thread, fragments and spine is
// not looked at.
func TestAdd(t *testing.T) {
	for _, state := range []int{Waiting, Granted, Failed, 3, -1, math.MaxInt} {
		for _, n := range []int{0, 1, 2, -1, 7, math.MinInt, math.MaxInt} {
			l := New()
			if !l.Add(Req{Thread: 3, Frags: 4, Spine: 5, State: state, Cycles: n, At: n, Got: numbers(n, 2)}) {
				t.Fatalf("P10.1: Add of state %d with %d is refused", state, n)
			}
			holds(t, "added", l, came(3, 4, 5))
			l.Begin()
			l.End()
			holds(t, "a cycle on", l, with(came(3, 4, 5), Waiting, 1))
		}
	}
}

// TestAddAnyNumbers: a line holds threads against each other, and takes any.
func TestAddAnyNumbers(t *testing.T) {
	l, want := New(), []Req(nil)
	edges := []int{0, -1, 1, math.MinInt, math.MaxInt, math.MinInt + 1, math.MaxInt - 1, math.MaxInt32, math.MinInt32, 256, 1 << 16, 1 << 32, 1<<32 + 1, -256}
	for i, n := range edges {
		r := came(n, edges[(i+1)%len(edges)], edges[(i+2)%len(edges)])
		if !l.Add(r) {
			t.Fatalf("P10.1: Add of %v is refused", r)
		}
		want = append(want, r)
	}
	holds(t, "any numbers", l, want...)
	for _, n := range edges {
		if l.Add(Req{Thread: n}) {
			t.Errorf("P10.1: a second Add of thread %d", n)
		}
	}
	holds(t, "any numbers, a second time", l, want...)
	orderIs(t, "any numbers", l, edges...)
}

// TestAddTwice: one of a thread is refused while there is one, whatever its
// state, and changes nothing.
func TestAddTwice(t *testing.T) {
	l := made(t, 4, 5, 6)
	want := []Req{asked(4), asked(5), asked(6)}
	refused := func(what string) {
		t.Helper()
		for _, thread := range []int{4, 5, 6} {
			for _, r := range []Req{asked(thread), {Thread: thread}, {Thread: thread, Frags: 9, State: Failed, Got: []int{1}}} {
				if l.Add(r) {
					t.Fatalf("P10.1: %s: a second Add of %v", what, r)
				}
			}
		}
		holds(t, what, l, want...)
	}
	refused("all wait")
	l.Grant([]int{7}, 8)
	want[0] = got(want[0], 8, 7)
	refused("one is granted")
	l.Fail()
	want[1] = with(want[1], Failed, 0)
	refused("one has failed")
	l.Begin()
	refused("one is noted")
	noted(t, "behind Add that was refused", l, 6)
}

func TestOf(t *testing.T) {
	l := made(t, 0, 7, 15, 3)
	holds(t, "four", l, asked(0), asked(7), asked(15), asked(3))
	for _, thread := range []int{-1, 16, 256, 263, 1 << 32, 1<<32 + 7, 7 - 1<<32, math.MinInt, math.MaxInt} {
		ofIs(t, "no such thread", l, thread, nil)
	}
}

// TestGrant grants lists of all lengths, of any numbers, at any place.
func TestGrant(t *testing.T) {
	for n := range 12 {
		for _, at := range []int{-1, 0, 1, 7, -2, math.MinInt, math.MaxInt} {
			l := made(t, 2, 1)
			if !l.Grant(numbers(at, n), at) {
				t.Fatalf("P10.1: Grant of %d at %d is refused", n, at)
			}
			holds(t, "one granted", l, got(asked(2), at, numbers(at, n)...), asked(1))
			if !l.Grant(nil, at) {
				t.Fatal("P10.1: Grant of nothing is refused")
			}
			holds(t, "both granted", l, got(asked(2), at, numbers(at, n)...), got(asked(1), at))
			if l.Grant([]int{5}, 5) || l.Fail() {
				t.Error("P10.1: Grant or Fail, where none waits")
			}
			holds(t, "none waits", l, got(asked(2), at, numbers(at, n)...), got(asked(1), at))
		}
	}
}

func TestFail(t *testing.T) {
	l := made(t, 2, 1, 3)
	want := []Req{asked(2), asked(1), asked(3)}
	for i := range want {
		if !l.Fail() {
			t.Fatalf("P10.1: Fail of the one at %d is refused", i)
		}
		want[i] = with(want[i], Failed, 0)
		holds(t, "behind Fail", l, want...)
	}
	if l.Fail() || l.Grant([]int{1}, 2) {
		t.Error("P10.1: Fail or Grant, where none waits")
	}
	holds(t, "all failed", l, want...)
}

// TestCyclesStay: how long one waited is told of it when it waits no more.
func TestCyclesStay(t *testing.T) {
	l := made(t, 0, 1)
	for range 3 {
		l.Begin()
		l.End()
	}
	l.Grant([]int{4, 2}, 9)
	l.Fail()
	granted := got(with(asked(0), Waiting, 3), 9, 4, 2)
	holds(t, "behind three cycles", l, granted, with(asked(1), Failed, 3))
	l.Begin()
	l.End()
	holds(t, "behind a fourth one", l, granted, with(asked(1), Failed, 3))
}

// TestDrop drops each of five, in each state.
func TestDrop(t *testing.T) {
	for settled := range 6 {
		for i := range 5 {
			l, want := made(t, 9, 3, 5, 0, 7), []Req{asked(9), asked(3), asked(5), asked(0), asked(7)}
			for j := range settled {
				if j%2 == 0 {
					l.Grant(numbers(j, j), j)
					want[j] = got(want[j], j, numbers(j, j)...)
				} else {
					l.Fail()
					want[j] = with(want[j], Failed, 0)
				}
			}
			thread := want[i].Thread
			if !l.Drop(thread) {
				t.Fatalf("P10.1: Drop(%d) is refused", thread)
			}
			want = slices.Delete(want, i, i+1)
			holds(t, "behind Drop", l, want...)
			if l.Drop(thread) {
				t.Fatalf("P10.1: Drop(%d) once more", thread)
			}
			holds(t, "behind Drop once more", l, want...)
		}
	}
}

func TestDropOfNone(t *testing.T) {
	l := made(t, 1, 2)
	for _, thread := range []int{0, -1, 3, 257, 1<<32 + 1, 2 - 1<<32, math.MinInt, math.MaxInt} {
		if l.Drop(thread) {
			t.Errorf("P10.1: Drop(%d) of none", thread)
		}
		holds(t, "behind Drop of none", l, asked(1), asked(2))
	}
}

// TestDropAll: an emptied line is as a new one.
func TestDropAll(t *testing.T) {
	l := New()
	for range 3 {
		for thread := range 16 {
			l.Add(asked(thread))
		}
		l.Begin()
		for thread := range 16 {
			if !l.Drop(15 - thread) {
				t.Fatalf("P10.1: Drop(%d) is refused", 15-thread)
			}
		}
		holds(t, "emptied", l)
		if l.Grant([]int{1}, 1) || l.Fail() {
			t.Error("P10.1: Grant or Fail in an emptied line")
		}
	}
}

// TestComeBack: who was dropped and comes back is a new one, behind all.
func TestComeBack(t *testing.T) {
	l := made(t, 0, 1, 2, 3)
	l.Begin()
	l.End()
	l.Grant([]int{6}, 6)
	l.Fail()
	for thread := range 3 {
		if !l.Drop(thread) || !l.Add(came(thread, 1, 2)) {
			t.Fatalf("P10.1: thread %d does not come back", thread)
		}
	}
	holds(t, "back", l, with(asked(3), Waiting, 1), came(0, 1, 2), came(1, 1, 2), came(2, 1, 2))
	orderIs(t, "back", l, 3, 0, 1, 2)
}

// TestOrder: they wait in the order in which they came, whichever their threads
// are and whatever they ask for.
func TestOrder(t *testing.T) {
	for _, threads := range [][]int{{0, 1, 2, 3, 4}, {4, 3, 2, 1, 0}, {2, 4, 0, 3, 1}, {15, 0, 7, -1, 8}, {1}} {
		l := New()
		for i, thread := range threads {
			l.Add(came(thread, 50-10*i, i%2))
		}
		l.Begin()
		l.End()
		orderIs(t, "as they came", l, threads...)
	}
	l := made(t, 4, 1, 3, 0, 2)
	l.Drop(4)
	l.Drop(3)
	l.Add(asked(4))
	orderIs(t, "some gone, one back", l, 1, 0, 2, 4)
}

func TestBeginAndEnd(t *testing.T) {
	l := made(t, 0, 1, 2)
	noted(t, "End without Begin", l)
	l.Begin()
	holds(t, "Begin alone", l, asked(0), asked(1), asked(2))
	noted(t, "a cycle", l, 0, 1, 2)
	noted(t, "a second End", l)
	l.Begin()
	noted(t, "a second cycle", l, 0, 1, 2)
	holds(t, "two cycles on", l, with(asked(0), Waiting, 2), with(asked(1), Waiting, 2), with(asked(2), Waiting, 2))
}

// TestComeLate: who comes within a cycle is counted from the next one on.
func TestComeLate(t *testing.T) {
	l := made(t, 0)
	l.Begin()
	l.Add(asked(1))
	noted(t, "one late", l, 0)
	l.Add(asked(2))
	l.Begin()
	l.Add(asked(3))
	noted(t, "one more late", l, 0, 1, 2)
	noted(t, "no Begin", l)
	holds(t, "behind late ones", l, with(asked(0), Waiting, 2), with(asked(1), Waiting, 1), with(asked(2), Waiting, 1), asked(3))
}

// TestBeginAgain: the last Begin holds, and a cycle counts once.
func TestBeginAgain(t *testing.T) {
	l := made(t, 0)
	l.Begin()
	l.Add(asked(1))
	l.Begin()
	l.Begin()
	l.Add(asked(2))
	noted(t, "three of Begin", l, 0, 1)
	noted(t, "no Begin", l)
}

// TestSettledWithin: who is granted, failed or dropped within a cycle is not
// counted, nor who comes back.
func TestSettledWithin(t *testing.T) {
	l := made(t, 0, 1, 2, 3, 4)
	l.Begin()
	l.Grant([]int{1}, -1)
	l.Fail()
	l.Drop(2)
	l.Add(asked(2))
	noted(t, "settled", l, 3, 4)
	l.Begin()
	l.Drop(0)
	l.Add(asked(0))
	noted(t, "settled once more", l, 2, 3, 4)
	l.Begin()
	noted(t, "a third cycle", l, 0, 2, 3, 4)
}

// TestDropWithin: whoever is dropped within a cycle, the others are counted, and
// one that came late is not.
func TestDropWithin(t *testing.T) {
	for gone := range 6 {
		l := made(t, 0, 1, 2, 3)
		l.Begin()
		l.Add(asked(4))
		l.Add(asked(5))
		l.Drop(gone)
		want := []int{0, 1, 2, 3}
		noted(t, "one dropped", l, slices.DeleteFunc(want, func(i int) bool { return i == gone })...)
	}
}

// TestWhatIsHandedIn: lists handed in are not changed, nor what lies behind
// them, and what is written into them afterwards shows nowhere.
func TestWhatIsHandedIn(t *testing.T) {
	whole := numbers(10, 12)
	l := New()
	l.Add(Req{Thread: 1, Got: whole[:4]})
	l.Add(Req{Thread: 2, Got: whole[:0]})
	l.Grant(whole[:3], 5)
	l.Grant(whole[3:5], 6)
	first, _ := l.Of(1)
	first.Got[0] = -7
	_ = append(first.Got, -8)
	if !slices.Equal(whole, numbers(10, 12)) {
		t.Fatalf("P10.3: a list that was handed in is %v", whole)
	}
	clear(whole)
	holds(t, "a list that was granted written into", l, got(came(1, 0, 0), 5, 10, 11, 12), got(came(2, 0, 0), 6, 13, 14))
}

// TestEmptyLists: nil and the empty list are the same.
func TestEmptyLists(t *testing.T) {
	room := numbers(1, 3)
	for _, none := range [][]int{nil, {}, room[:0], room[3:]} {
		l := made(t, 1)
		l.Grant(none, 4)
		holds(t, "none granted", l, got(asked(1), 4))
		r, _ := l.Of(1)
		_ = append(r.Got, -7)
		if !slices.Equal(room, numbers(1, 3)) {
			t.Fatalf("P10.3: behind a list that was handed in: %v", room)
		}
	}
}

// TestListsAreNewMemory: what a caller writes into a list, or appends to it,
// shows in no other list and not in the line.
func TestListsAreNewMemory(t *testing.T) {
	for n := range 10 {
		l, want := made(t, 1, 2), numbers(30, n)
		l.Grant(want, 3)
		first, _ := l.Of(1)
		second, _ := l.Of(1)
		whole := first.Got[:cap(first.Got)]
		for i := range whole {
			whole[i] = -7
		}
		_ = append(first.Got, -8)
		if !slices.Equal(second.Got, want) {
			t.Fatalf("P10.3: one list shows in another one: %v", second.Got)
		}
		holds(t, "a list that was answered written into", l, got(asked(1), 3, want...), asked(2))
	}
}

// TestAnswersStay: a request that was answered shows nothing of later calls, and
// what is written into it does not show in the line.
func TestAnswersStay(t *testing.T) {
	l := made(t, 1, 2)
	first, _ := l.First()
	of, _ := l.Of(1)
	l.Begin()
	l.End()
	l.Grant([]int{5}, 6)
	granted, _ := l.Of(1)
	l.Drop(1)
	l.Add(came(1, 0, 0))
	l.Fail()
	l.Grant([]int{8}, 9)
	if !same(first, asked(1)) || !same(of, asked(1)) || !same(granted, got(with(asked(1), Waiting, 1), 6, 5)) {
		t.Errorf("P10.3: answers are %v, %v, %v", first, of, granted)
	}
	first.State, of.Thread, granted.Cycles = Failed, 7, 70
	holds(t, "answers written into", l, with(asked(2), Failed, 1), got(came(1, 0, 0), 9, 8))
}

// plain is a line told otherwise: the requests, and the threads that are noted.
type plain struct {
	reqs  []Req
	noted []int
}

func (p *plain) of(thread int) int {
	return slices.IndexFunc(p.reqs, func(r Req) bool { return r.Thread == thread })
}

func (p *plain) first() int {
	return slices.IndexFunc(p.reqs, func(r Req) bool { return r.State == Waiting })
}

func (p *plain) drop(thread int) bool {
	i := p.of(thread)
	if i < 0 {
		return false
	}
	p.reqs = slices.Delete(p.reqs, i, i+1)
	p.noted = slices.DeleteFunc(p.noted, func(n int) bool { return n == thread })
	return true
}

func (p *plain) begin() {
	p.noted = nil
	for _, r := range p.reqs {
		if r.State == Waiting {
			p.noted = append(p.noted, r.Thread)
		}
	}
}

func (p *plain) end() {
	for _, thread := range p.noted {
		if i := p.of(thread); p.reqs[i].State == Waiting {
			p.reqs[i].Cycles++
		}
	}
	p.noted = nil
}

// settle grants or fails the first one that waits.
func (p *plain) settle(state, at int, l []int) bool {
	i := p.first()
	if i < 0 {
		return false
	}
	p.reqs[i].State, p.reqs[i].At, p.reqs[i].Got = state, at, l
	return true
}

// TestLongRun makes calls of all kinds, on a line and on plain lists.
func TestLongRun(t *testing.T) {
	for _, threads := range []int{1, 2, 5, 16} {
		l, p, next := New(), &plain{}, scattered()
		for range 6000 {
			thread, answer, want := int(next()%uint64(threads+1)), true, true
			switch next() % 12 {
			case 0:
				at := int(next()%9) - 1
				list := numbers(at, max(at, 0))
				answer, want = l.Grant(list, at), p.settle(Granted, at, list)
			case 1:
				answer, want = l.Fail(), p.settle(Failed, -1, nil)
			case 2, 3:
				answer, want = l.Drop(thread), p.drop(thread)
			case 4, 5:
				l.Begin()
				p.begin()
			case 6, 7:
				l.End()
				p.end()
			default:
				r := came(thread, int(next()%90), int(next()%90))
				answer, want = l.Add(r), p.of(thread) < 0
				if want {
					p.reqs = append(p.reqs, r)
				}
			}
			if answer != want {
				t.Fatalf("P10.1: a call is %t, of %v, thread %d", answer, p.reqs, thread)
			}
			holds(t, "one more call", l, p.reqs...)
		}
	}
}

// TestMany: a line has no bound of its own.
func TestMany(t *testing.T) {
	const n = 1000
	l := New()
	for thread := range n {
		if !l.Add(asked(thread)) {
			t.Fatalf("P10.1: Add of thread %d is refused", thread)
		}
	}
	l.Begin()
	l.End()
	for thread := range n {
		r, ok := l.First()
		if !ok || !same(r, with(asked(thread), Waiting, 1)) || l.Waits() != n-thread || !l.Grant([]int{thread}, thread) {
			t.Fatalf("P10.4: the one at %d is %v, %t", thread, r, ok)
		}
	}
	for thread := range n {
		r, ok := l.Of(thread)
		if !ok || !same(r, got(with(asked(thread), Waiting, 1), thread, thread)) {
			t.Fatalf("P10.1: Of(%d) is %v, %t", thread, r, ok)
		}
	}
}

// TestLinesStandApart: what is done in one shows in no other one.
func TestLinesStandApart(t *testing.T) {
	first, second := made(t, 1, 2), made(t, 1, 2)
	first.Begin()
	first.Grant([]int{3}, 4)
	second.End()
	second.Drop(1)
	third := New()
	first.End()
	holds(t, "the first", first, got(asked(1), 4, 3), with(asked(2), Waiting, 1))
	holds(t, "the second", second, asked(2))
	holds(t, "the third", third)
}
