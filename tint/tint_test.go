package tint

import (
	"math"
	"testing"

	"spolia/api"
)

const bound = 1024 // the greatest table

// fragment is what a table must have of one.
type fragment struct {
	state        int
	head, colour bool
}

// made is a table of n fragments that may be.
func made(t *testing.T, n int) *Table {
	t.Helper()
	x, e := New(n)
	if x == nil || e != api.OK {
		t.Fatalf("P7.1: New(%d): a table: %t, %d", n, x != nil, e)
	}
	return x
}

// fresh lists n fragments as a new table must have them.
func fresh(n int) []fragment { return make([]fragment, n) }

func bothSenses() []bool { return []bool{false, true} }

// everyFragment has each state, head and colour that Set may be given.
func everyFragment() []fragment {
	var all []fragment
	for _, state := range []int{api.Free, api.Cached, api.Used} {
		for _, head := range bothSenses() {
			for _, colour := range bothSenses() {
				all = append(all, fragment{state, head, colour})
			}
		}
	}
	return all
}

// scattered answers a function that tells numbers of any bits, the same ones in
// every run.
func scattered() func() uint64 {
	state := uint64(7)
	return func() uint64 {
		state += 0x9E3779B97F4A7C15
		z := (state ^ state>>30) * 0xBF58476D1CE4E5B9
		z = (z ^ z>>27) * 0x94D049BB133111EB
		return z ^ z>>31
	}
}

// missing lists numbers of fragments that a table of n doesn't have, some of
// which would wrap to one that it has.
func missing(n int) []int {
	return []int{
		-1, -2, -n, -n - 1, -bound, math.MinInt, math.MinInt + 1, math.MinInt32, -1 << 32, -256, -1 << 16,
		n, n + 1, 2*n + 1, n + 256, n + bound, bound, bound + 1, 1 << 16, math.MaxInt32, 1 << 32, 1<<32 + 1, 1 << 62, math.MaxInt - 1, math.MaxInt,
	}
}

// noStates lists numbers of no state, some of which would wrap to one.
func noStates() []int {
	return []int{
		-1, -2, -3, 3, 4, 5, 255, 256, 257, 258, -254, -256, 1 << 16, 1<<16 + 2, math.MaxInt32, math.MinInt32,
		1 << 32, 1<<32 + 1, 1<<32 + 2, 1 << 62, math.MinInt, math.MinInt + 2, math.MaxInt - 1, math.MaxInt,
	}
}

// isAs fails the test unless all that can be asked of the fragment i is as f says.
func isAs(t *testing.T, what string, x *Table, i int, f fragment) {
	t.Helper()
	used := f.state == api.Used
	if got := x.State(i); got != f.state {
		t.Fatalf("P7.1: %s: State(%d) is %d, not %d", what, i, got, f.state)
	}
	if got := x.Head(i); got != (used && f.head) {
		t.Fatalf("P7.1: %s: Head(%d) is %t, of %v", what, i, got, f)
	}
	for _, sense := range bothSenses() {
		if got := x.Black(i, sense); got != (used && f.colour == sense) {
			t.Fatalf("P7.1: %s: Black(%d, %t) is %t, of %v", what, i, sense, got, f)
		}
	}
	if used && x.Black(i, true) == x.Black(i, false) {
		t.Fatalf("P7.2: %s: fragment %d is as black of one sense as of the other", what, i)
	}
}

// counts fails the test unless the counts are those of the fragments.
func counts(t *testing.T, what string, x *Table, want []fragment) {
	t.Helper()
	var each [3]int
	for _, f := range want {
		each[f.state]++
	}
	free, cached, used := x.Counts()
	if free != each[0] || cached != each[1] || used != each[2] {
		t.Fatalf("P7.1: %s: Counts are %d, %d, %d, not %v", what, free, cached, used, each)
	}
	if free+cached+used != len(want) || x.Len() != len(want) {
		t.Fatalf("P7.2: %s: Counts are %d, %d, %d, Len is %d, of %d", what, free, cached, used, x.Len(), len(want))
	}
}

// holds fails the test unless the table is as the list says, asked twice, since
// asking changes nothing.
func holds(t *testing.T, what string, x *Table, want []fragment) {
	t.Helper()
	for range 2 {
		counts(t, what, x, want)
		for i, f := range want {
			isAs(t, what, x, i, f)
		}
	}
}

// set fails the test unless the table takes f.
func set(t *testing.T, x *Table, i int, f fragment) {
	t.Helper()
	if !x.Set(i, f.state, f.head, f.colour) {
		t.Fatalf("P7.1: Set(%d) to %v is refused", i, f)
	}
}

func TestExample(t *testing.T) {
	if free, cached, used := made(t, 2).Counts(); free != 2 || cached != 0 || used != 0 {
		t.Errorf("P7.1: Counts of New(2) are %d, %d, %d", free, cached, used)
	}
}

func TestNew(t *testing.T) {
	for _, n := range []int{0, 1, 2, 7, 8, 9, 63, 64, 65, 255, 256, 257, bound - 1, bound} {
		x := made(t, n)
		holds(t, "a new table", x, fresh(n))
		for i := range n {
			if x.Mark(i, true) || x.Mark(i, false) || x.Born(i) {
				t.Fatalf("P7.1: fragment %d of a new table of %d can be marked or born", i, n)
			}
		}
		holds(t, "a new table that was marked", x, fresh(n))
	}
}

func TestNewOutOfBounds(t *testing.T) {
	for _, n := range []int{
		-1, -2, -bound, math.MinInt32, math.MinInt, math.MinInt + 1, -1 << 32,
		bound + 1, bound + 2, 2 * bound, 1 << 16, math.MaxInt32, 1 << 32, 1<<32 + 1, 1 << 62, math.MaxInt - 1, math.MaxInt,
	} {
		if x, e := New(n); x != nil || e != api.ErrRange {
			t.Errorf("P7.1: New(%d): a table: %t, %d", n, x != nil, e)
		}
	}
}

// TestNoSuchFragment asks tables of Used fragments, so that whatever were
// written or read by mistake would show.
func TestNoSuchFragment(t *testing.T) {
	for _, n := range []int{0, 1, 5, 64} {
		x, all := made(t, n), fresh(n)
		for i := range all {
			all[i] = fragment{api.Used, i%2 == 0, i%3 == 0}
			set(t, x, i, all[i])
		}
		for _, i := range missing(n) {
			if i >= 0 && i < n {
				continue
			}
			for _, f := range everyFragment() {
				if x.Set(i, f.state, f.head, f.colour) {
					t.Errorf("P7.1: Set(%d) to %v is taken by a table of %d", i, f, n)
				}
			}
			if x.Born(i) || x.Mark(i, true) || x.Mark(i, false) {
				t.Errorf("P7.1: fragment %d of %d is born or marked", i, n)
			}
			isAs(t, "no fragment", x, i, fragment{})
			holds(t, "behind calls for no fragment", x, all)
		}
	}
}

func TestNoSuchState(t *testing.T) {
	for _, f := range everyFragment() {
		x, all := made(t, 3), fresh(3)
		all[1] = f
		set(t, x, 1, f)
		for _, state := range noStates() {
			for _, i := range []int{0, 1, 2, 3, -1} {
				for _, sense := range bothSenses() {
					if x.Set(i, state, true, sense) || x.Set(i, state, false, sense) {
						t.Errorf("P7.1: Set(%d) to the state %d is taken", i, state)
					}
				}
			}
			holds(t, "behind a state that is none", x, all)
		}
	}
}

// TestSet goes from every state, head and colour to every other one: nothing of
// what was there before stays.
func TestSet(t *testing.T) {
	for _, before := range everyFragment() {
		for _, behind := range everyFragment() {
			x, all := made(t, 3), fresh(3)
			set(t, x, 1, before)
			all[1] = before
			holds(t, "set once", x, all)
			set(t, x, 1, behind)
			all[1] = behind
			holds(t, "set anew", x, all)
		}
	}
}

// TestHeadOfUsedAlone: who was said to be a head while not Used is none when
// Used at last, and who was a head is none behind having been free.
func TestHeadOfUsedAlone(t *testing.T) {
	for _, state := range []int{api.Free, api.Cached} {
		x := made(t, 1)
		set(t, x, 0, fragment{api.Used, true, true})
		set(t, x, 0, fragment{state, true, true})
		isAs(t, "a head that is not Used", x, 0, fragment{state, false, true})
		if x.Born(0) {
			t.Errorf("P7.1: Born of the state %d", state)
		}
		set(t, x, 0, fragment{api.Used, false, true})
		isAs(t, "Used again", x, 0, fragment{api.Used, false, true})
		if !x.Born(0) {
			t.Errorf("P7.1: no Born behind the state %d", state)
		}
	}
}

func TestBorn(t *testing.T) {
	for _, f := range everyFragment() {
		x, all := made(t, 3), fresh(3)
		all[1] = f
		set(t, x, 1, f)
		want := f.state == api.Used && !f.head
		if got := x.Born(1); got != want {
			t.Errorf("P7.1: Born of %v is %t", f, got)
		}
		if want {
			all[1].head = true
		}
		holds(t, "behind Born", x, all)
		if x.Born(1) {
			t.Errorf("P7.1: Born of %v, once more", f)
		}
		holds(t, "behind Born, once more", x, all)
	}
}

func TestMark(t *testing.T) {
	for _, f := range everyFragment() {
		for _, sense := range bothSenses() {
			x, all := made(t, 3), fresh(3)
			all[1] = f
			set(t, x, 1, f)
			for _, s := range []bool{sense, sense, !sense, !sense, sense} {
				want := f.state == api.Used && all[1].colour != s
				if got := x.Mark(1, s); got != want {
					t.Errorf("P7.1: Mark(%t) of %v is %t", s, all[1], got)
				}
				if want {
					all[1].colour = s
				}
				holds(t, "behind Mark", x, all)
			}
		}
	}
}

// TestSenseFlips: when the sense flips, all that was black is white at once,
// and each one can be marked just once till it flips again.
func TestSenseFlips(t *testing.T) {
	const n = 40
	x, all := made(t, n), fresh(n)
	for i := range all {
		all[i] = fragment{i % 3, i%2 == 0, true}
		set(t, x, i, all[i])
	}
	for _, sense := range []bool{false, true, false} {
		for i, f := range all {
			if x.Black(i, sense) {
				t.Fatalf("P7.2: fragment %d is black of %t ahead of Mark", i, sense)
			}
			if got := x.Mark(i, sense); got != (f.state == api.Used) {
				t.Fatalf("P7.1: Mark(%d, %t) of %v is %t", i, sense, f, got)
			}
			all[i].colour = sense
		}
		holds(t, "behind a flip", x, all)
		for i := range all {
			if x.Mark(i, sense) {
				t.Fatalf("P7.1: Mark(%d, %t), once more", i, sense)
			}
		}
		holds(t, "marked once more", x, all)
	}
}

// step makes one call on the table and on the list, and answers whether both
// say the same.
func step(x *Table, all []fragment, next func() uint64) bool {
	i := int(next()%uint64(len(all)+6)) - 3
	f := fragment{int(next()%5) - 1, next()%2 == 0, next()%2 == 0}
	in := i >= 0 && i < len(all)
	switch next() % 3 {
	case 0:
		want := in && f.state >= 0 && f.state <= 2
		if want {
			all[i] = fragment{f.state, f.head && f.state == api.Used, f.colour}
		}
		return x.Set(i, f.state, f.head, f.colour) == want
	case 1:
		want := in && all[i].state == api.Used && !all[i].head
		if want {
			all[i].head = true
		}
		return x.Born(i) == want
	default:
		want := in && all[i].state == api.Used && all[i].colour != f.colour
		if want {
			all[i].colour = f.colour
		}
		return x.Mark(i, f.colour) == want
	}
}

func TestLongRun(t *testing.T) {
	const n = 23
	x, all, next := made(t, n), fresh(n), scattered()
	for k := range 20000 {
		if !step(x, all, next) {
			t.Fatalf("P7.1: call %d answers otherwise than the list", k)
		}
		holds(t, "one more call", x, all)
	}
}

func TestGreatest(t *testing.T) {
	x, all := made(t, bound), fresh(bound)
	for i := range all {
		all[i] = fragment{(i + i/7) % 3, i%5 == 0, i%2 == 0}
		set(t, x, i, all[i])
	}
	holds(t, "the greatest table", x, all)
	for _, state := range []int{api.Cached, api.Used, api.Free} {
		for i := range all {
			all[i] = fragment{state, false, true}
			set(t, x, i, all[i])
		}
		holds(t, "all of one state", x, all)
	}
}

// TestTablesStandApart: what is set in one shows in no other one.
func TestTablesStandApart(t *testing.T) {
	first, second := made(t, 4), made(t, 4)
	set(t, first, 1, fragment{api.Used, false, true})
	first.Born(1)
	first.Mark(1, false)
	set(t, first, 2, fragment{api.Cached, false, false})
	New(-1)
	third := made(t, 4)
	holds(t, "the first", first, []fragment{{}, {api.Used, true, false}, {api.Cached, false, false}, {}})
	holds(t, "the second", second, fresh(4))
	holds(t, "the third", third, fresh(4))
}
