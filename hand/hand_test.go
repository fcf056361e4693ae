package hand

import (
	"math"
	"reflect"
	"slices"
	"testing"

	"spolia/api"
)

const mostThreads = 16 // of the greatest hand

// model is what a hand must have, written another way: those alone that are
// there, and how often the sense was flipped.
type model struct {
	threads int
	status  int
	flips   int
	there   map[int]int
	count   int
}

func (m *model) sense() bool { return m.flips%2 == 1 }

func (m *model) post(status int, flip bool) bool {
	m.count++
	if !slices.Contains(statuses(), status) {
		return false
	}
	m.status = status
	if flip {
		m.flips++
	}
	return true
}

func (m *model) look() (int, bool) {
	m.count++
	return m.status, m.sense()
}

func (m *model) answer(t, status int) bool {
	m.count++
	if _, ok := m.there[t]; !ok || !slices.Contains(statuses(), status) {
		return false
	}
	m.there[t] = status
	return true
}

func (m *model) poll(t int) bool {
	m.count++
	own, ok := m.there[t]
	return !ok || own == m.status
}

func (m *model) join(t int) (int, bool, bool) {
	m.count++
	if _, ok := m.there[t]; ok || !slices.Contains(numbers(m.threads), t) {
		return 0, false, false
	}
	m.there[t] = m.status
	return m.status, m.sense(), true
}

func (m *model) leave(t int) bool {
	m.count++
	_, ok := m.there[t]
	delete(m.there, t)
	return ok
}

func (m *model) own(t int) int {
	if own, ok := m.there[t]; ok {
		return own
	}
	return -1
}

// made is a hand for so many threads, that may be, with its model.
func made(t *testing.T, threads int) (*Hand, *model) {
	t.Helper()
	h, e := New(threads)
	if h == nil || e != api.OK {
		t.Fatalf("P18.1: New(%d): a hand: %t, %d", threads, h != nil, e)
	}
	return h, &model{threads: threads, there: map[int]int{}}
}

func statuses() []int { return []int{api.Still, api.First, api.Both, api.Trace, api.Move} }

// noStatuses lists numbers that are no statuses, some of which would wrap to
// one.
func noStatuses() []int {
	return []int{
		-1, -2, -4, -5, math.MinInt, math.MinInt + 1, math.MinInt32, -1 << 32, -256, -1 << 16,
		5, 6, 7, 8, 256, 257, 1 << 16, math.MaxInt32, 1 << 32, 1<<32 + 1, 1 << 62, math.MaxInt - 1, math.MaxInt,
	}
}

// missing lists numbers of threads that no hand for n ever has, some of which
// would wrap to one that it may have.
func missing(n int) []int {
	return []int{
		-1, -2, -n, -n - 1, -mostThreads - 1, math.MinInt, math.MinInt + 1, math.MinInt32, -1 << 32, -256, -1 << 16,
		n, n + 1, 2*n + 1, n + 256, n + mostThreads, mostThreads, mostThreads + 1, 1 << 16, math.MaxInt32,
		1 << 32, 1<<32 + 1, 1 << 62, math.MaxInt - 1, math.MaxInt,
	}
}

func bothSenses() []bool { return []bool{false, true} }

func numbers(n int) []int {
	l := make([]int, n)
	for i := range l {
		l[i] = i
	}
	return l
}

// scattered answers a function that tells numbers of any bits, the same ones in
// every run.
func scattered() func() uint64 {
	state := uint64(18)
	return func() uint64 {
		state += 0x9E3779B97F4A7C15
		z := (state ^ state>>30) * 0xBF58476D1CE4E5B9
		z = (z ^ z>>27) * 0x94D049BB133111EB
		return z ^ z>>31
	}
}

// standsAs fails the test unless all that can be asked without counting is as
// the model says, asked twice, since asking changes nothing.
func standsAs(t *testing.T, what string, h *Hand, want *model) {
	t.Helper()
	for range 2 {
		if h.Count() != want.count {
			t.Fatalf("P18.1: %s: Count is %d, not %d", what, h.Count(), want.count)
		}
		for p := -1; p <= want.threads; p++ {
			if h.Status(p) != want.own(p) {
				t.Fatalf("P18.1: %s: Status(%d) is %d, not %d", what, p, h.Status(p), want.own(p))
			}
		}
	}
}

// postIs, lookIs, answerIs, pollIs, joinIs and leaveIs make a call on a hand and
// on the model, and fail the test unless both answer the same.
func postIs(t *testing.T, what string, h *Hand, want *model, status int, flip bool) bool {
	t.Helper()
	got, is := h.Post(status, flip), want.post(status, flip)
	if got != is {
		t.Fatalf("P18.1: %s: Post(%d, %t) is %t", what, status, flip, got)
	}
	standsAs(t, what+", behind Post", h, want)
	return got
}

func lookIs(t *testing.T, what string, h *Hand, want *model) (int, bool) {
	t.Helper()
	status, sense := h.Look()
	s, f := want.look()
	if status != s || sense != f {
		t.Fatalf("P18.1: %s: Look is %d, %t, not %d, %t", what, status, sense, s, f)
	}
	standsAs(t, what+", behind Look", h, want)
	return status, sense
}

func answerIs(t *testing.T, what string, h *Hand, want *model, p, status int) bool {
	t.Helper()
	got, is := h.Answer(p, status), want.answer(p, status)
	if got != is {
		t.Fatalf("P18.1: %s: Answer(%d, %d) is %t", what, p, status, got)
	}
	standsAs(t, what+", behind Answer", h, want)
	return got
}

func pollIs(t *testing.T, what string, h *Hand, want *model, p int) bool {
	t.Helper()
	got, is := h.Poll(p), want.poll(p)
	if got != is {
		t.Fatalf("P18.1: %s: Poll(%d) is %t", what, p, got)
	}
	standsAs(t, what+", behind Poll", h, want)
	return got
}

func joinIs(t *testing.T, what string, h *Hand, want *model, p int) bool {
	t.Helper()
	status, sense, ok := h.Join(p)
	s, f, is := want.join(p)
	if status != s || sense != f || ok != is {
		t.Fatalf("P18.1: %s: Join(%d) is %d, %t, %t, not %d, %t, %t", what, p, status, sense, ok, s, f, is)
	}
	standsAs(t, what+", behind Join", h, want)
	return ok
}

func leaveIs(t *testing.T, what string, h *Hand, want *model, p int) bool {
	t.Helper()
	got, is := h.Leave(p), want.leave(p)
	if got != is {
		t.Fatalf("P18.1: %s: Leave(%d) is %t", what, p, got)
	}
	standsAs(t, what+", behind Leave", h, want)
	return got
}

// ends fails the test unless a hand answers all that it can be asked as the
// model says.
func ends(t *testing.T, what string, h *Hand, want *model) {
	t.Helper()
	lookIs(t, what, h, want)
	for p := range want.threads {
		pollIs(t, what, h, want, p)
	}
}

func TestExample(t *testing.T) {
	h, _ := made(t, 2)
	if !h.Poll(0) {
		t.Error("P18.1: New(2): Poll(0) is false")
	}
}

// TestCalls: a hand has the calls that the chapter lists and no other one.
func TestCalls(t *testing.T) {
	var got []string
	for m := range reflect.TypeFor[*Hand]().Methods() {
		got = append(got, m.Name)
	}
	want := []string{"Answer", "Count", "Join", "Leave", "Look", "Poll", "Post", "Status"}
	if !slices.Equal(got, want) {
		t.Errorf("P18.1: the calls are %v", got)
	}
}

func TestNew(t *testing.T) {
	for threads := 1; threads <= mostThreads; threads++ {
		h, want := made(t, threads)
		ends(t, "a new one", h, want)
		if status, sense := h.Look(); status != api.Still || sense {
			t.Errorf("P18.1: New(%d): Look is %d, %t", threads, status, sense)
		}
	}
}

func TestNewOutOfBounds(t *testing.T) {
	if api.MaxThreads != mostThreads {
		t.Fatalf("P18.1: MaxThreads is %d", api.MaxThreads)
	}
	for _, threads := range []int{
		0, -1, -2, -15, -16, -17, math.MinInt32, 1 - 1<<16, 1 - 1<<32, -1 << 32, math.MinInt, math.MinInt + 1,
		mostThreads + 1, mostThreads + 2, 2 * mostThreads, 256, 257, 1 << 16, 1<<16 + 1, math.MaxInt32, 1 << 32,
		1<<32 + 1, 1<<32 + mostThreads, 1 << 62, math.MaxInt - 1, math.MaxInt,
	} {
		if h, e := New(threads); h != nil || e != api.ErrRange {
			t.Errorf("P18.1: New(%d): a hand: %t, %d", threads, h != nil, e)
		}
	}
}

// TestPost posts each status behind each other one, and behind itself, in both
// senses: the own statuses stay what they are.
func TestPost(t *testing.T) {
	for _, from := range statuses() {
		for _, to := range statuses() {
			for _, before := range bothSenses() {
				for _, flip := range bothSenses() {
					h, want := made(t, 2)
					joinIs(t, "one there", h, want, 1)
					postIs(t, "first", h, want, from, before)
					if !postIs(t, "then", h, want, to, flip) {
						t.Fatalf("P18.1: Post(%d, %t) behind %d", to, flip, from)
					}
					if status, sense := lookIs(t, "then", h, want); status != to || sense != (before != flip) {
						t.Fatalf("P18.1: Post(%d, %t) behind Post(%d, %t): %d, %t", to, flip, from, before, status, sense)
					}
					ends(t, "posted", h, want)
				}
			}
		}
	}
}

// TestPostOfNone: a status that is none is not posted, and the sense stays, flip
// or not.
func TestPostOfNone(t *testing.T) {
	for _, status := range noStatuses() {
		for _, flip := range bothSenses() {
			h, want := made(t, 2)
			joinIs(t, "one there", h, want, 0)
			for _, last := range []int{api.Still, api.Both, api.Move} {
				postIs(t, "a status", h, want, last, last == api.Both)
				if postIs(t, "none", h, want, status, flip) {
					t.Fatalf("P18.1: Post(%d, %t)", status, flip)
				}
				ends(t, "none", h, want)
			}
		}
	}
}

// TestSenses: only the Post of a status with flip makes the sense the other one.
func TestSenses(t *testing.T) {
	h, want := made(t, 1)
	sense := false
	for n := range 40 {
		flip := n%3 != 1
		postIs(t, "many", h, want, statuses()[n%5], flip)
		if flip {
			sense = !sense
		}
		for range 2 {
			if _, got := lookIs(t, "many", h, want); got != sense {
				t.Fatalf("P18.1: the sense is %t behind %d posts", got, n+1)
			}
		}
	}
}

// TestAnswer: each status may be answered, whatever is posted, and becomes the
// own one of that thread alone; what is posted stays.
func TestAnswer(t *testing.T) {
	for _, posted := range statuses() {
		for _, status := range statuses() {
			for p := range 3 {
				h, want := made(t, 3)
				for q := range 3 {
					joinIs(t, "all there", h, want, q)
				}
				postIs(t, "posted", h, want, posted, true)
				for range 2 {
					if !answerIs(t, "posted", h, want, p, status) || h.Status(p) != status {
						t.Fatalf("P18.1: Answer(%d, %d) of %d", p, status, posted)
					}
				}
				if pollIs(t, "answered", h, want, p) != (status == posted) {
					t.Fatalf("P18.1: Poll(%d): answered %d of %d", p, status, posted)
				}
				ends(t, "answered", h, want)
			}
		}
	}
}

// TestAnswerOfNone: what is no status is not answered.
func TestAnswerOfNone(t *testing.T) {
	for _, status := range noStatuses() {
		h, want := made(t, 2)
		joinIs(t, "one there", h, want, 1)
		answerIs(t, "one there", h, want, 1, api.Trace)
		for p := range 2 {
			if answerIs(t, "none", h, want, p, status) {
				t.Fatalf("P18.1: Answer(%d, %d)", p, status)
			}
		}
		ends(t, "none", h, want)
		if !joinIs(t, "none", h, want, 0) {
			t.Fatalf("P18.1: Join behind Answer(0, %d)", status)
		}
	}
}

// TestJoin: who joins has answered what is posted, in each status and sense, and
// is there once; joining again changes nothing.
func TestJoin(t *testing.T) {
	for _, posted := range statuses() {
		for _, flip := range bothSenses() {
			h, want := made(t, 3)
			postIs(t, "posted", h, want, posted, flip)
			if status, sense, ok := h.Join(2); status != posted || sense != flip || !ok {
				t.Fatalf("P18.1: Join(2) of %d, %t: %d, %t, %t", posted, flip, status, sense, ok)
			}
			want.join(2)
			ends(t, "joined", h, want)
			for _, later := range statuses() {
				postIs(t, "later", h, want, later, true)
				if joinIs(t, "there already", h, want, 2) {
					t.Fatal("P18.1: Join of what is there")
				}
				ends(t, "there already", h, want)
			}
		}
	}
}

// TestEveryThread: each thread that a hand is for may join, answer and leave.
func TestEveryThread(t *testing.T) {
	for threads := 1; threads <= mostThreads; threads++ {
		h, want := made(t, threads)
		for p := range threads {
			if !joinIs(t, "all", h, want, p) || joinIs(t, "all", h, want, p) {
				t.Fatalf("P18.1: Join(%d) of %d", p, threads)
			}
		}
		postIs(t, "all", h, want, api.First, true)
		for p := range threads {
			if pollIs(t, "all", h, want, p) || !answerIs(t, "all", h, want, p, api.First) || !pollIs(t, "all", h, want, p) {
				t.Fatalf("P18.1: Answer(%d) of %d", p, threads)
			}
		}
		for p := range threads {
			if !leaveIs(t, "all", h, want, p) || leaveIs(t, "all", h, want, p) {
				t.Fatalf("P18.1: Leave(%d) of %d", p, threads)
			}
		}
		ends(t, "all", h, want)
	}
}

// TestLeave: nothing is kept of one that left, and who joins anew has answered
// what is posted then.
func TestLeave(t *testing.T) {
	for _, own := range statuses() {
		for _, posted := range statuses() {
			h, want := made(t, 2)
			joinIs(t, "two there", h, want, 0)
			joinIs(t, "two there", h, want, 1)
			answerIs(t, "two there", h, want, 0, own)
			postIs(t, "two there", h, want, posted, false)
			if !leaveIs(t, "one left", h, want, 0) || h.Status(0) != -1 || !pollIs(t, "one left", h, want, 0) {
				t.Fatalf("P18.1: Leave of a thread of status %d, %d posted", own, posted)
			}
			if leaveIs(t, "one left", h, want, 0) || answerIs(t, "one left", h, want, 0, own) {
				t.Fatal("P18.1: a thread that left is there")
			}
			ends(t, "one left", h, want)
			if !joinIs(t, "joined anew", h, want, 0) || h.Status(0) != posted {
				t.Fatalf("P18.1: Join behind Leave: %d, not %d", h.Status(0), posted)
			}
			ends(t, "joined anew", h, want)
		}
	}
}

// TestMissing: a thread that there is not is never there; each call counts all
// the same.
func TestMissing(t *testing.T) {
	for _, threads := range []int{1, 2, 3, 15, mostThreads} {
		for _, p := range missing(threads) {
			if 0 <= p && p < threads {
				continue
			}
			h, want := made(t, threads)
			for q := range threads {
				joinIs(t, "all there", h, want, q)
			}
			postIs(t, "all there", h, want, api.Both, true)
			if joinIs(t, "missing", h, want, p) || answerIs(t, "missing", h, want, p, api.Both) ||
				!pollIs(t, "missing", h, want, p) || leaveIs(t, "missing", h, want, p) || h.Status(p) != -1 {
				t.Fatalf("P18.1: thread %d of %d", p, threads)
			}
			if h.Count() != threads+5 {
				t.Fatalf("P18.1: Count is %d behind %d calls", h.Count(), threads+5)
			}
			ends(t, "missing", h, want)
		}
	}
}

// TestCount: each call of six counts one, whatever it answers; Status and Count
// count none.
func TestCount(t *testing.T) {
	calls := []func(h *Hand){
		func(h *Hand) { h.Post(api.First, true) },
		func(h *Hand) { h.Post(-1, true) },
		func(h *Hand) { h.Look() },
		func(h *Hand) { h.Answer(0, api.First) },
		func(h *Hand) { h.Answer(0, 5) },
		func(h *Hand) { h.Answer(1, api.First) },
		func(h *Hand) { h.Poll(0) },
		func(h *Hand) { h.Poll(1) },
		func(h *Hand) { h.Poll(-1) },
		func(h *Hand) { h.Join(1) },
		func(h *Hand) { h.Join(1) },
		func(h *Hand) { h.Join(2) },
		func(h *Hand) { h.Leave(1) },
		func(h *Hand) { h.Leave(1) },
		func(h *Hand) { h.Leave(math.MinInt) },
	}
	h, _ := made(t, 2)
	h.Join(0)
	for n, call := range calls {
		call(h)
		for p := -1; p < 3; p++ {
			h.Status(p)
		}
		if h.Count() != n+2 {
			t.Fatalf("P18.1: Count is %d behind %d calls", h.Count(), n+2)
		}
	}
}

// TestAllAnswered polls as the collector does, thread by thread, while threads
// answer, join and leave between any two polls: when all were polled, each that
// is there has answered.
func TestAllAnswered(t *testing.T) {
	next := scattered()
	for round := range 400 {
		threads := 1 + round%mostThreads
		h, want := made(t, threads)
		for p := range threads {
			if next()%4 > 0 {
				joinIs(t, "at first", h, want, p)
			}
		}
		for _, posted := range []int{api.First, api.Both, api.Trace, api.Move, api.Still} {
			postIs(t, "a cycle", h, want, posted, posted == api.First)
			pollAll(t, h, want, next)
			for p := range threads {
				if own := h.Status(p); own != -1 && own != posted {
					t.Fatalf("P18.2: thread %d has answered %d, not %d", p, own, posted)
				}
			}
		}
	}
}

// pollAll polls until all were polled; between two polls some thread does what
// threads do: it answers what it sees, leaves or joins.
func pollAll(t *testing.T, h *Hand, want *model, next func() uint64) {
	t.Helper()
	for p := 0; p < want.threads; {
		if pollIs(t, "a cycle", h, want, p) {
			p++
		}
		q := int(next() % uint64(want.threads))
		switch {
		case h.Status(q) < 0:
			joinIs(t, "a cycle", h, want, q)
		case next()%4 == 0:
			leaveIs(t, "a cycle", h, want, q)
		default:
			posted, _ := lookIs(t, "a cycle", h, want)
			answerIs(t, "a cycle", h, want, q, posted)
		}
	}
}

// TestOneIsLate: one that is there and has not answered keeps its poll
// false, however often it is asked, and no other one's.
func TestOneIsLate(t *testing.T) {
	for late := range mostThreads {
		h, want := made(t, mostThreads)
		for p := range mostThreads {
			joinIs(t, "all there", h, want, p)
		}
		postIs(t, "one late", h, want, api.Trace, false)
		for p := range mostThreads {
			if p != late {
				answerIs(t, "one late", h, want, p, api.Trace)
			}
		}
		for range 3 {
			for p := range mostThreads {
				if pollIs(t, "one late", h, want, p) != (p != late) {
					t.Fatalf("P18.2: Poll(%d), thread %d is late", p, late)
				}
			}
		}
	}
}

// TestAllShortRuns makes all runs of up to five calls on a hand for two.
func TestAllShortRuns(t *testing.T) {
	const calls, kinds = 5, 12
	runs := 1
	for range calls {
		runs *= kinds
	}
	for run := range runs {
		h, want := made(t, 2)
		for n, rest := 0, run; n < calls; n, rest = n+1, rest/kinds {
			oneOf(t, h, want, rest%kinds)
		}
		ends(t, "a run", h, want)
	}
}

// oneOf makes one of the twelve calls of which short runs are made.
func oneOf(t *testing.T, h *Hand, want *model, kind int) {
	t.Helper()
	const what = "a run"
	switch kind {
	case 0, 1:
		joinIs(t, what, h, want, kind)
	case 2, 3:
		leaveIs(t, what, h, want, kind-2)
	case 4, 5:
		answerIs(t, what, h, want, kind-4, api.First)
	case 6:
		answerIs(t, what, h, want, 1, api.Still)
	case 7, 8:
		postIs(t, what, h, want, api.First, kind == 8)
	case 9:
		postIs(t, what, h, want, api.Still, true)
	case 10:
		postIs(t, what, h, want, -1, true)
	default:
		lookIs(t, what, h, want)
	}
}

// TestLongRun makes calls of all kinds, with numbers that are none among them.
func TestLongRun(t *testing.T) {
	const what = "a long run"
	for threads := 1; threads <= mostThreads; threads++ {
		h, want := made(t, threads)
		next := scattered()
		for range 3000 {
			p, status := int(next()%uint64(threads+2))-1, int(next()%7)-1
			switch next() % 6 {
			case 0:
				postIs(t, what, h, want, status, next()%2 == 0)
			case 1:
				lookIs(t, what, h, want)
			case 2:
				answerIs(t, what, h, want, p, status)
			case 3:
				pollIs(t, what, h, want, p)
			case 4:
				joinIs(t, what, h, want, p)
			default:
				leaveIs(t, what, h, want, p)
			}
		}
		ends(t, what, h, want)
	}
}

// TestHandsStandApart: what is posted or answered on one shows on no other one.
func TestHandsStandApart(t *testing.T) {
	first, ofFirst := made(t, 3)
	second, ofSecond := made(t, 3)
	joinIs(t, "the first", first, ofFirst, 0)
	joinIs(t, "the first", first, ofFirst, 2)
	postIs(t, "the first", first, ofFirst, api.Both, true)
	ends(t, "the second", second, ofSecond)
	joinIs(t, "the second", second, ofSecond, 0)
	postIs(t, "the second", second, ofSecond, api.Move, false)
	answerIs(t, "the second", second, ofSecond, 0, api.Trace)
	New(0)
	third, ofThird := made(t, 3)
	leaveIs(t, "the first", first, ofFirst, 0)
	ends(t, "the third", third, ofThird)
	ends(t, "the second", second, ofSecond)
	ends(t, "the first", first, ofFirst)
}
