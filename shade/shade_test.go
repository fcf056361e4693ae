package shade

import (
	"math"
	"reflect"
	"slices"
	"testing"

	"spolia/api"
	"spolia/tint"
)

const (
	mostFrags = 1024 // of the greatest table
	mostLaid  = 256  // on the greatest pile
)

// fragment is what a shade must have of one.
type fragment struct {
	state        int
	head, colour bool
}

func (f fragment) isUsed() bool { return f.state == api.Used }

func (f fragment) isHead() bool { return f.isUsed() && f.head }

// model is what a shade must have, written another way: the top one of the pile
// ahead, and those that were lost by their numbers.
type model struct {
	frags []fragment
	most  int
	laid  []int
	lost  []int
	count int
}

// at answers the fragment i, if there is one.
func (m *model) at(i int) *fragment {
	for k := range m.frags {
		if k == i {
			return &m.frags[k]
		}
	}
	return nil
}

func (m *model) grey(i int, sense bool) bool {
	m.count++
	f := m.at(i)
	if f == nil || !f.isHead() || f.colour == sense {
		return false
	}
	f.colour = sense
	if len(m.laid) < m.most {
		m.laid = slices.Insert(m.laid, 0, i)
	} else {
		m.lost = append(m.lost, i)
	}
	return true
}

func (m *model) black(i int, sense bool) bool {
	m.count++
	f := m.at(i)
	return f != nil && f.isHead() && f.colour == sense
}

func (m *model) part(i int, sense bool) bool {
	m.count++
	f := m.at(i)
	if f == nil || !f.isUsed() || f.colour == sense {
		return false
	}
	f.colour = sense
	return true
}

func (m *model) next() (int, bool) {
	m.count++
	if len(m.laid) == 0 {
		return 0, false
	}
	top := m.laid[0]
	m.laid = slices.Delete(m.laid, 0, 1)
	return top, true
}

func (m *model) anyLost() bool {
	m.count++
	any := len(m.lost) > 0
	m.lost = nil
	return any
}

// made is a shade that may be.
func made(t *testing.T, n, most int) *Shade {
	t.Helper()
	s, e := New(n, most)
	if s == nil || e != api.OK {
		t.Fatalf("P15.1: New(%d, %d): a shade: %t, %d", n, most, s != nil, e)
	}
	return s
}

// set is a shade of these fragments, with its model.
func set(t *testing.T, most int, frags ...fragment) (*Shade, *model) {
	t.Helper()
	s := made(t, len(frags), most)
	for i, f := range frags {
		if !s.Table().Set(i, f.state, f.head, f.colour) {
			t.Fatalf("P15.1: Set(%d) of %d is refused", i, len(frags))
		}
	}
	return s, &model{frags: slices.Clone(frags), most: most}
}

// heads lists n heads that are white of true.
func heads(n int) []fragment {
	return slices.Repeat([]fragment{{api.Used, true, false}}, n)
}

func bothSenses() []bool { return []bool{false, true} }

// everyFragment has each state, head and colour that a fragment may have.
func everyFragment() []fragment {
	var all []fragment
	for _, state := range []int{api.Free, api.Cached, api.Used} {
		for _, head := range bothSenses() {
			for _, colour := range bothSenses() {
				all = append(all, fragment{state, head, colour})
			}
		}
	}
	return all
}

// missing lists numbers of fragments that a shade of n doesn't have, some of
// which would wrap to one that it has.
func missing(n int) []int {
	return []int{
		-1, -2, -n, -n - 1, -mostFrags, math.MinInt, math.MinInt + 1, math.MinInt32, -1 << 32, -256, -1 << 16,
		n, n + 1, 2*n + 1, n + 256, n + mostFrags, mostFrags, mostFrags + 1, 1 << 16, math.MaxInt32,
		1 << 32, 1<<32 + 1, 1 << 62, math.MaxInt - 1, math.MaxInt,
	}
}

// scattered answers a function that tells numbers of any bits, the same ones in
// every run.
func scattered() func() uint64 {
	state := uint64(15)
	return func() uint64 {
		state += 0x9E3779B97F4A7C15
		z := (state ^ state>>30) * 0xBF58476D1CE4E5B9
		z = (z ^ z>>27) * 0x94D049BB133111EB
		return z ^ z>>31
	}
}

// standsAs fails the test unless all that can be asked without counting is as
// the model says, asked twice, since asking changes nothing.
func standsAs(t *testing.T, what string, s *Shade, want *model) {
	t.Helper()
	for range 2 {
		if s.Len() != len(want.laid) || s.Count() != want.count {
			t.Fatalf("P15.1: %s: Len is %d, Count is %d, not %d, %d", what, s.Len(), s.Count(), len(want.laid), want.count)
		}
		if s.Table().Len() != len(want.frags) {
			t.Fatalf("P15.1: %s: the Table has %d, not %d", what, s.Table().Len(), len(want.frags))
		}
		for i, f := range want.frags {
			fragmentIs(t, what, s.Table(), i, f)
		}
	}
}

// fragmentIs fails the test unless the table has of the fragment i what f says.
func fragmentIs(t *testing.T, what string, x *tint.Table, i int, f fragment) {
	t.Helper()
	if x.State(i) != f.state || x.Head(i) != f.isHead() {
		t.Fatalf("P15.1: %s: fragment %d has state %d, head %t, not %v", what, i, x.State(i), x.Head(i), f)
	}
	for _, sense := range bothSenses() {
		if x.Black(i, sense) != (f.isUsed() && f.colour == sense) {
			t.Fatalf("P15.1: %s: fragment %d is black of %t in the Table: %t, not %v", what, i, sense, x.Black(i, sense), f)
		}
	}
}

// greyIs, blackIs, partIs, nextIs and lostIs make a call on a shade and on the
// model, and fail the test unless both answer the same.
func greyIs(t *testing.T, what string, s *Shade, want *model, i int, sense bool) bool {
	t.Helper()
	got, is := s.Grey(i, sense), want.grey(i, sense)
	if got != is {
		t.Fatalf("P15.1: %s: Grey(%d, %t) is %t", what, i, sense, got)
	}
	standsAs(t, what+", behind Grey", s, want)
	return got
}

func blackIs(t *testing.T, what string, s *Shade, want *model, i int, sense bool) bool {
	t.Helper()
	got, is := s.Black(i, sense), want.black(i, sense)
	if got != is {
		t.Fatalf("P15.1: %s: Black(%d, %t) is %t", what, i, sense, got)
	}
	standsAs(t, what+", behind Black", s, want)
	return got
}

func partIs(t *testing.T, what string, s *Shade, want *model, i int, sense bool) bool {
	t.Helper()
	got, is := s.Part(i, sense), want.part(i, sense)
	if got != is {
		t.Fatalf("P15.1: %s: Part(%d, %t) is %t", what, i, sense, got)
	}
	standsAs(t, what+", behind Part", s, want)
	return got
}

func nextIs(t *testing.T, what string, s *Shade, want *model) (int, bool) {
	t.Helper()
	got, ok := s.Next()
	top, is := want.next()
	if got != top || ok != is {
		t.Fatalf("P15.1: %s: Next is %d, %t, not %d, %t", what, got, ok, top, is)
	}
	standsAs(t, what+", behind Next", s, want)
	return got, ok
}

func lostIs(t *testing.T, what string, s *Shade, want *model) bool {
	t.Helper()
	got, is := s.Lost(), want.anyLost()
	if got != is {
		t.Fatalf("P15.1: %s: Lost is %t", what, got)
	}
	standsAs(t, what+", behind Lost", s, want)
	return got
}

// ends fails the test unless the pile is taken down as the model says, with
// nothing behind it, and something is lost as it says, once.
func ends(t *testing.T, what string, s *Shade, want *model) {
	t.Helper()
	standsAs(t, what, s, want)
	for range len(want.laid) + 2 {
		nextIs(t, what, s, want)
	}
	for range 2 {
		lostIs(t, what, s, want)
	}
}

func TestExample(t *testing.T) {
	s := made(t, 1, 1)
	if s.Grey(0, true) || s.Grey(0, false) {
		t.Error("P15.1: Grey of a free fragment is true")
	}
}

// TestCalls: a shade has the calls that the chapter lists and no other one, such
// as one of the table's or the pile's that would not be counted.
func TestCalls(t *testing.T) {
	var got []string
	for m := range reflect.TypeFor[*Shade]().Methods() {
		got = append(got, m.Name)
	}
	want := []string{"Black", "Count", "Grey", "Len", "Lost", "Next", "Part", "Table"}
	if !slices.Equal(got, want) {
		t.Errorf("P15.1: the calls are %v", got)
	}
}

func TestNew(t *testing.T) {
	for _, n := range []int{0, 1, 2, 5, 255, 256, 257, mostFrags - 1, mostFrags} {
		for _, most := range []int{1, 2, 3, mostLaid - 1, mostLaid} {
			s, want := made(t, n, most), &model{frags: make([]fragment, n), most: most}
			ends(t, "a new one", s, want)
		}
	}
}

func TestNewOutOfBounds(t *testing.T) {
	if api.MaxFrags != mostFrags || api.MaxStack != mostLaid {
		t.Fatalf("P15.1: the limits are %d, %d", api.MaxFrags, api.MaxStack)
	}
	noSizes := []int{-1, -2, -mostFrags, math.MinInt, math.MinInt32, -1 << 32, mostFrags + 1, 2 * mostFrags, 1 << 16, math.MaxInt32, 1 << 32, 1<<32 + 5, 1 << 62, math.MaxInt}
	noMosts := []int{0, -1, -2, -mostLaid, math.MinInt, math.MinInt32, -1 << 32, mostLaid + 1, 2 * mostLaid, mostFrags, 1 << 16, math.MaxInt32, 1 << 32, 1<<32 + 5, 1 << 62, math.MaxInt}
	for _, n := range noSizes {
		for _, most := range append([]int{1, 7, mostLaid}, noMosts...) {
			newIsRefused(t, n, most)
		}
	}
	for _, most := range noMosts {
		for _, n := range []int{0, 1, 5, mostFrags} {
			newIsRefused(t, n, most)
		}
	}
}

func newIsRefused(t *testing.T, n, most int) {
	t.Helper()
	if s, e := New(n, most); s != nil || e != api.ErrRange {
		t.Errorf("P15.1: New(%d, %d): a shade: %t, %d", n, most, s != nil, e)
	}
}

// TestEveryFragment makes each call that names a fragment on fragments of all
// kinds; only its colour changes, and the pile has those alone that became grey.
func TestEveryFragment(t *testing.T) {
	all := everyFragment()
	for i := range all {
		for _, sense := range bothSenses() {
			for _, call := range []func(*testing.T, string, *Shade, *model, int, bool) bool{greyIs, blackIs, partIs} {
				s, want := set(t, 4, all...)
				for range 2 {
					call(t, "every fragment", s, want, i, sense)
				}
				call(t, "every fragment, the other sense", s, want, i, !sense)
				call(t, "every fragment, the sense once more", s, want, i, sense)
				ends(t, "every fragment", s, want)
			}
		}
	}
}

// TestMissing: what there is not is neither grey nor black nor a part; each call
// counts all the same.
func TestMissing(t *testing.T) {
	for _, n := range []int{0, 1, 2, 8} {
		for _, i := range missing(n) {
			if 0 <= i && i < n {
				continue
			}
			s, want := set(t, 1, heads(n)...)
			for _, sense := range bothSenses() {
				if greyIs(t, "missing", s, want, i, sense) || blackIs(t, "missing", s, want, i, sense) || partIs(t, "missing", s, want, i, sense) {
					t.Fatalf("P15.1: fragment %d of %d", i, n)
				}
			}
			if s.Count() != 6 {
				t.Fatalf("P15.1: Count is %d behind 6 calls", s.Count())
			}
			ends(t, "missing", s, want)
		}
	}
}

// TestTable is the same table each time, and what is set there counts here, what
// is grey here is black there.
func TestTable(t *testing.T) {
	s, want := set(t, 2, heads(3)...)
	x := s.Table()
	if x != s.Table() {
		t.Error("P15.1: Table is another one each time")
	}
	x.Set(1, api.Used, false, false)
	want.frags[1].head = false
	if greyIs(t, "no head", s, want, 1, true) {
		t.Error("P15.1: Grey of a fragment that is no head")
	}
	x.Born(1)
	want.frags[1].head = true
	if !greyIs(t, "born", s, want, 1, true) || !x.Black(1, true) {
		t.Error("P15.1: Grey of a head that was just born")
	}
	x.Mark(2, true)
	want.frags[2].colour = true
	if greyIs(t, "marked in the table", s, want, 2, true) {
		t.Error("P15.1: Grey of what is black in the table")
	}
	x.Set(1, api.Free, true, true)
	want.frags[1] = fragment{api.Free, true, true}
	if blackIs(t, "free again", s, want, 1, true) || partIs(t, "free again", s, want, 1, false) {
		t.Error("P15.1: a fragment that is free again")
	}
	// What is on the pile stays there, whatever becomes of it.
	ends(t, "free again", s, want)
}

// TestNextIsTheLast: the one that became grey last comes first, and a 0 that is
// there is told from none.
func TestNextIsTheLast(t *testing.T) {
	s, want := set(t, 3, heads(3)...)
	if i, ok := nextIs(t, "none yet", s, want); i != 0 || ok {
		t.Error("P15.1: Next of none")
	}
	for _, i := range []int{1, 0, 2} {
		greyIs(t, "three", s, want, i, true)
	}
	for _, top := range []int{2, 0, 1} {
		if i, ok := nextIs(t, "three", s, want); i != top || !ok {
			t.Errorf("P15.1: Next is %d, %t, not %d", i, ok, top)
		}
		// It is looked at, and black still.
		if !blackIs(t, "three", s, want, top, true) || greyIs(t, "three", s, want, top, true) {
			t.Errorf("P15.1: fragment %d is white behind Next", top)
		}
	}
	ends(t, "three", s, want)
}

// TestFullPile: one more is black and lost, and told so once; those that would
// not become grey are not lost.
func TestFullPile(t *testing.T) {
	for _, most := range []int{1, 2, 3, 8, mostLaid - 1, mostLaid} {
		frags := append(heads(most+3), fragment{api.Used, false, false}, fragment{api.Cached, true, false}, fragment{api.Used, true, true})
		s, want := set(t, most, frags...)
		for i := range most {
			s.Grey(i, true)
			want.grey(i, true)
		}
		for _, i := range []int{0, most - 1, most + 3, most + 4, most + 5, most + 6, -1} {
			if greyIs(t, "full", s, want, i, true) {
				t.Errorf("P15.1: Grey(%d), full of %d", i, most)
			}
		}
		partIs(t, "full", s, want, most+3, true)
		if lostIs(t, "full", s, want) {
			t.Errorf("P15.1: Lost ahead of one too many, full of %d", most)
		}
		for i := most; i < most+2; i++ {
			if !greyIs(t, "one too many", s, want, i, true) || !blackIs(t, "one too many", s, want, i, true) || greyIs(t, "lost", s, want, i, true) {
				t.Errorf("P15.1: one too many, full of %d", most)
			}
		}
		if !lostIs(t, "two too many", s, want) || lostIs(t, "told", s, want) {
			t.Errorf("P15.1: Lost is told once, full of %d", most)
		}
		if !greyIs(t, "one too many anew", s, want, most+2, true) || !lostIs(t, "one too many anew", s, want) {
			t.Errorf("P15.1: Lost anew, full of %d", most)
		}
		ends(t, "full", s, want)
	}
}

// TestLostStays: neither room nor other calls bring back what is lost, until it
// is asked for.
func TestLostStays(t *testing.T) {
	s, want := set(t, 1, heads(4)...)
	greyIs(t, "one", s, want, 0, true)
	greyIs(t, "one too many", s, want, 1, true)
	nextIs(t, "room again", s, want)
	greyIs(t, "room again", s, want, 2, true)
	nextIs(t, "room again", s, want)
	nextIs(t, "empty", s, want)
	partIs(t, "empty", s, want, 3, true)
	blackIs(t, "empty", s, want, 3, true)
	greyIs(t, "empty", s, want, 3, true)
	if !lostIs(t, "lost long ago", s, want) || lostIs(t, "told", s, want) {
		t.Error("P15.1: Lost stays until it is asked for")
	}
	ends(t, "told", s, want)
}

// TestCount: each of the five calls counts one, whatever it answers, the others
// none.
func TestCount(t *testing.T) {
	s, _ := set(t, 1, heads(2)...)
	calls := []func(){
		func() { s.Grey(0, true) }, func() { s.Grey(0, true) }, func() { s.Grey(1, true) }, func() { s.Grey(9, true) },
		func() { s.Black(0, true) }, func() { s.Black(0, false) }, func() { s.Black(-1, false) },
		func() { s.Part(0, false) }, func() { s.Part(0, false) }, func() { s.Part(2, true) },
		func() { s.Lost() }, func() { s.Lost() },
		func() { s.Next() }, func() { s.Next() },
	}
	for n, call := range slices.Concat(calls, calls, calls) {
		call()
		s.Table().Mark(1, n%2 == 0)
		s.Table().Set(1, api.Used, true, false)
		s.Len()
		for range 2 {
			if s.Count() != n+1 {
				t.Fatalf("P15.1: Count is %d behind %d calls", s.Count(), n+1)
			}
		}
	}
}

// TestOnceForEachSense greys all heads again and again while the pile is taken
// down: each one is laid once for a sense, or is lost.
func TestOnceForEachSense(t *testing.T) {
	for _, n := range []int{1, 2, 3, 8, 40} {
		for most := 1; most <= n+1; most++ {
			s, _ := set(t, most, heads(n)...)
			for turn := range 5 {
				onceForSense(t, s, n, most, turn%2 == 0)
			}
		}
	}
}

// onceForSense asks for all n heads, of which none is black of sense, and fails
// the test unless each comes once, those past the most alone being lost.
func onceForSense(t *testing.T, s *Shade, n, most int, sense bool) {
	t.Helper()
	came := make([]int, n)
	for range 3 {
		for i := range n {
			s.Grey(i, sense)
		}
	}
	for i, ok := s.Next(); ok; i, ok = s.Next() {
		came[i]++
		for again := range n {
			if s.Grey(again, sense) {
				t.Fatalf("P15.2: fragment %d of %d is grey once more", again, n)
			}
		}
	}
	for i, times := range came {
		want := 0
		if i < most {
			want = 1
		}
		if times != want || !s.Black(i, sense) {
			t.Fatalf("P15.2: fragment %d of %d came %d times from a pile for %d", i, n, times, most)
		}
	}
	if s.Lost() != (n > most) {
		t.Fatalf("P15.2: Lost, of %d and a pile for %d", n, most)
	}
}

// oneCall makes the call of that number on a shade and on the model.
func oneCall(t *testing.T, s *Shade, want *model, kind, i int, sense bool) {
	t.Helper()
	switch kind {
	case 0:
		greyIs(t, "a run", s, want, i, sense)
	case 1:
		nextIs(t, "a run", s, want)
	case 2:
		lostIs(t, "a run", s, want)
	case 3:
		partIs(t, "a run", s, want, i, sense)
	default:
		blackIs(t, "a run", s, want, i, sense)
	}
}

// TestAllShortRuns makes all runs of five calls on two heads and the smallest
// piles: each head of each sense, Next, Lost and a part.
func TestAllShortRuns(t *testing.T) {
	const calls, kinds = 5, 7
	runs := 1
	for range calls {
		runs *= kinds
	}
	for most := 1; most <= 2; most++ {
		for run := range runs {
			s, want := set(t, most, heads(2)...)
			for n, rest := 0, run; n < calls; n, rest = n+1, rest/kinds {
				kind := rest % kinds
				if kind < 4 {
					oneCall(t, s, want, 0, kind/2, kind%2 == 0)
				} else {
					oneCall(t, s, want, kind-3, 0, true)
				}
			}
			ends(t, "a short run", s, want)
		}
	}
}

// TestLongRun makes calls of all kinds on fragments of all kinds, that change
// meanwhile, more often up and more often down by turns.
func TestLongRun(t *testing.T) {
	for _, most := range []int{1, 2, 5, 16, 64} {
		next := scattered()
		var frags []fragment
		for range 8 {
			frags = append(frags, everyFragment()...)
		}
		s, want := set(t, most, frags...)
		for n := range 6000 {
			i, kind := int(next()%uint64(len(frags)+2))-1, int(next()%12)
			sense := n/500%2 == 0 != (next()%8 == 0)
			if kind > 5 {
				kind = n / (4 * most) % 2
			}
			if f := want.at(i); kind == 5 && f != nil {
				*f = everyFragment()[next()%12]
				s.Table().Set(i, f.state, f.head, f.colour)
			}
			oneCall(t, s, want, kind, i, sense)
		}
		ends(t, "a long run", s, want)
	}
}

// TestShadesStandApart: what is grey, lost or counted in one shows in no other
// one.
func TestShadesStandApart(t *testing.T) {
	first, one := set(t, 1, heads(3)...)
	second, two := set(t, 2, heads(3)...)
	greyIs(t, "the first", first, one, 0, true)
	greyIs(t, "the first", first, one, 1, true)
	New(-1, 1)
	New(1, 0)
	standsAs(t, "the second", second, two)
	greyIs(t, "the second", second, two, 2, true)
	greyIs(t, "the second", second, two, 1, true)
	partIs(t, "the second", second, two, 0, true)
	standsAs(t, "the first", first, one)
	if lostIs(t, "the second", second, two) || !lostIs(t, "the first", first, one) {
		t.Error("P15.1: Lost of another one")
	}
	ends(t, "the second", second, two)
	ends(t, "the first", first, one)
}
