package space

import (
	"math"
	"reflect"
	"slices"
	"testing"

	"spolia/api"
	"spolia/conf"
	"spolia/shape"
	"spolia/tint"
)

// fragment is what a space must have of one.
type fragment struct {
	state        int
	head, colour bool
}

// wish is what a thread asked for, and how it stands with it.
type wish struct {
	thread, frags, spine int
	state, cycles, at    int
	noted                bool
	got                  []int
}

// model is what a space must be, written another way: what is free is what the
// fragments say, and the spines are counted word by word.
type model struct {
	c       conf.Conf
	frags   []fragment
	stocks  [][]int
	wishes  []*wish
	forced  bool
	current int
	used    [2]int
	kept    int
	count   int
}

func modelOf(c conf.Conf) *model {
	return &model{c: c, frags: make([]fragment, c.Frags), stocks: make([][]int, c.Threads)}
}

// call is one of a space's calls, or of its coil's.
type call struct {
	name            string
	i, frags, spine int // i is a thread or a fragment
	sense           bool
}

// answer is what any of them tells.
type answer struct {
	grant Grant
	yes   bool
	n     int
}

func refused(state int) answer { return answer{grant: Grant{State: state, At: -1}} }

func (m *model) free() []int {
	var l []int
	for i, f := range m.frags {
		if f.state == api.Free {
			l = append(l, i)
		}
	}
	return l
}

func (m *model) waiting() []*wish {
	var l []*wish
	for _, w := range m.wishes {
		if w.state == Waiting {
			l = append(l, w)
		}
	}
	return l
}

func (m *model) wishOf(thread int) *wish {
	for _, w := range m.wishes {
		if w.thread == thread {
			return w
		}
	}
	return nil
}

func (m *model) room() int { return m.c.Spine - m.used[m.current] - m.kept }

// run is the highest run of k free ones.
func (m *model) run(k int) []int {
	free := m.free()
	for end := len(free); end-k >= 0; end-- {
		if l := free[end-k : end]; l[k-1]-l[0] == k-1 {
			return slices.Clone(l)
		}
	}
	return nil
}

func (m *model) fits(frags, spine int) bool {
	if frags > len(m.free()) {
		return false
	}
	return spine == 0 || m.run(frags) != nil || spine <= m.room()
}

// grant takes what fits.
func (m *model) grant(frags, spine int, sense bool) ([]int, int) {
	got, at := m.run(frags), -1
	if got == nil {
		got = slices.Clone(m.free()[:frags])
		if spine > 0 {
			at = 8*m.c.Frags + m.current*m.c.Spine + m.used[m.current]
			m.used[m.current] += spine
		}
	}
	m.set(fragment{state: api.Used, colour: sense}, got...)
	return got, at
}

func (m *model) set(f fragment, l ...int) {
	for _, i := range l {
		m.frags[i] = f
	}
}

func (m *model) ask(t, frags, spine int, sense bool) answer {
	if t < 0 || t >= m.c.Threads || frags <= 0 || spine < 0 || m.wishOf(t) != nil {
		return refused(None)
	}
	if spine == 0 && len(m.stocks[t]) >= frags {
		got := slices.Clone(m.stocks[t][:frags])
		m.stocks[t] = slices.Clone(m.stocks[t][frags:])
		m.set(fragment{state: api.Used, colour: sense}, got...)
		return answer{grant: Grant{Granted, got, -1}}
	}
	if len(m.waiting()) > 0 || !m.fits(frags, spine) {
		m.wishes = append(m.wishes, &wish{thread: t, frags: frags, spine: spine})
		return refused(Waiting)
	}
	got, at := m.grant(frags, spine, sense)
	for _, i := range m.free() {
		if len(m.stocks[t]) < m.c.Cache {
			m.set(fragment{state: api.Cached}, i)
			m.stocks[t] = append(m.stocks[t], i)
		}
	}
	return answer{grant: Grant{Granted, got, at}}
}

func (m *model) look(t int) answer {
	w := m.wishOf(t)
	if w == nil {
		return refused(None)
	}
	if w.state == Waiting {
		return refused(Waiting)
	}
	m.wishes = slices.DeleteFunc(m.wishes, func(v *wish) bool { return v == w })
	if w.state == Failed {
		return refused(Failed)
	}
	return answer{grant: Grant{Granted, w.got, w.at}}
}

func (m *model) serve(sense bool) bool {
	l := m.waiting()
	if len(l) == 0 {
		return false
	}
	w := l[0]
	if m.fits(w.frags, w.spine) {
		w.state = Granted
		w.got, w.at = m.grant(w.frags, w.spine, sense)
		return true
	}
	if w.cycles < 2 {
		return false
	}
	w.state = Failed
	return true
}

func (m *model) begin() {
	m.forced = false
	for _, w := range m.wishes {
		w.noted = w.state == Waiting
	}
}

func (m *model) end() {
	for _, w := range m.wishes {
		if w.noted && w.state == Waiting {
			w.cycles++
		}
		w.noted = false
	}
}

// at answers the fragment i, if there is one.
func (m *model) at(i int) *fragment {
	for k := range m.frags {
		if k == i {
			return &m.frags[k]
		}
	}
	return nil
}

func (m *model) born(i int) bool {
	f := m.at(i)
	if f == nil || f.state != api.Used || f.head {
		return false
	}
	f.head = true
	return true
}

func (m *model) sweep(i int, sense bool) bool {
	f := m.at(i)
	if f == nil || f.state != api.Used || f.colour == sense {
		return false
	}
	*f = fragment{}
	return true
}

func (m *model) drain(t int) int {
	if t < 0 || t >= m.c.Threads {
		return 0
	}
	l := m.stocks[t]
	m.set(fragment{}, l...)
	m.stocks[t] = nil
	return len(l)
}

func (m *model) turn() bool {
	if m.used[1-m.current] > 0 {
		return false
	}
	m.kept = m.used[m.current]
	m.current = 1 - m.current
	return true
}

func (m *model) done() bool {
	if m.kept > 0 {
		return false
	}
	m.used[1-m.current] = 0
	return true
}

// copied is the coil's Copy or Skip.
func (m *model) copied(n, used int) bool {
	if n < 1 || n > m.kept {
		return false
	}
	m.kept -= n
	m.used[m.current] += used
	return true
}

// do does a call in the model.
func (m *model) do(c call) answer {
	m.count++
	switch c.name {
	case "ask":
		return m.ask(c.i, c.frags, c.spine, c.sense)
	case "born":
		return answer{yes: m.born(c.i)}
	case "look":
		return m.look(c.i)
	case "drain":
		return answer{n: m.drain(c.i)}
	case "wants":
		return answer{yes: m.forced || len(m.waiting()) > 0 || len(m.free()) < m.c.Low}
	case "force":
		m.forced = true
	case "begin":
		m.begin()
	case "turn":
		return answer{yes: m.turn()}
	case "done":
		return answer{yes: m.done()}
	case "sweep":
		return answer{yes: m.sweep(c.i, c.sense)}
	case "end":
		m.end()
	case "serve":
		return answer{yes: m.serve(c.sense)}
	case "copy":
		m.count--
		return answer{yes: m.copied(c.spine, c.spine)}
	case "skip":
		m.count--
		return answer{yes: m.copied(c.spine, 0)}
	}
	return answer{}
}

// done does a call in the space.
func done(s *Space, c call) answer {
	switch c.name {
	case "ask":
		return answer{grant: s.Ask(c.i, c.frags, c.spine, c.sense)}
	case "born":
		return answer{yes: s.Born(c.i)}
	case "look":
		return answer{grant: s.Look(c.i)}
	case "drain":
		return answer{n: s.Drain(c.i)}
	case "wants":
		return answer{yes: s.Wants()}
	case "force":
		s.Force()
	case "begin":
		s.Begin()
	case "turn":
		return answer{yes: s.Turn()}
	case "done":
		return answer{yes: s.Done()}
	case "sweep":
		return answer{yes: s.Sweep(c.i, c.sense)}
	case "end":
		s.End()
	case "serve":
		return answer{yes: s.Serve(c.sense)}
	case "copy":
		_, ok := s.Coil().Copy(c.spine)
		return answer{yes: ok}
	case "skip":
		return answer{yes: s.Coil().Skip(c.spine)}
	}
	return answer{}
}

func ask(t, frags, spine int, sense bool) call {
	return call{name: "ask", i: t, frags: frags, spine: spine, sense: sense}
}

func of(name string, i int, sense bool) call { return call{name: name, i: i, sense: sense} }

func bare(name string) call { return call{name: name} }

// fine is a conf that may be.
func fine(frags, spine, threads, cache, low int) conf.Conf {
	return conf.Conf{
		Frags: frags, Spine: spine, Threads: threads, Locals: 1, Cache: cache, Stack: 1, Low: low,
		Shapes: []shape.Shape{{Array: true, Refs: []bool{true}}},
	}
}

// pair is a space with its table and its model.
type pair struct {
	s     *Space
	table *tint.Table
	m     *model
}

func made(t *testing.T, c conf.Conf) pair {
	t.Helper()
	table, _ := tint.New(c.Frags)
	s, e := New(c, table)
	if s == nil || e != api.OK {
		t.Fatalf("P21.1: New: a space: %t, %d", s != nil, e)
	}
	p := pair{s, table, modelOf(c)}
	p.standsAs(t)
	return p
}

// promiseOf tells which promise speaks of a call.
func promiseOf(name string) string {
	switch name {
	case "ask":
		return "P21.2"
	case "born", "look", "drain":
		return "P21.3"
	}
	return "P21.4"
}

func sameAnswer(a, b answer) bool {
	return a.yes == b.yes && a.n == b.n && a.grant.State == b.grant.State && a.grant.At == b.grant.At &&
		slices.Equal(a.grant.Got, b.grant.Got)
}

// does does c in both, and fails the test unless both answer the same and stand
// alike.
func (p pair) does(t *testing.T, c call) answer {
	t.Helper()
	got, want := done(p.s, c), p.m.do(c)
	if !sameAnswer(got, want) {
		t.Fatalf("%s: %+v: %+v, not %+v", promiseOf(c.name), c, got, want)
	}
	p.standsAs(t)
	return got
}

// is does c, which must answer want.
func (p pair) is(t *testing.T, c call, want answer) {
	t.Helper()
	if got := p.does(t, c); !sameAnswer(got, want) {
		t.Fatalf("%s: %+v: %+v, not %+v", promiseOf(c.name), c, got, want)
	}
}

// gets asks for what must be granted at once.
func (p pair) gets(t *testing.T, c call, at int, got ...int) {
	t.Helper()
	p.is(t, c, answer{grant: Grant{Granted, got, at}})
}

func yes(ok bool) answer { return answer{yes: ok} }

// standsAs fails the test unless all that can be told without a call that
// changes something is as the model says.
func (p pair) standsAs(t *testing.T) {
	t.Helper()
	cached := 0
	for _, l := range p.m.stocks {
		cached += len(l)
	}
	free := len(p.m.free())
	if a, b, c := p.table.Counts(); a != free || b != cached || c != p.m.c.Frags-free-cached || p.s.Free() != free {
		t.Fatalf("P21.6: %d, %d, %d, %d in the pool: not %d, %d", a, b, c, p.s.Free(), free, cached)
	}
	for i, f := range p.m.frags {
		used := f.state == api.Used
		if p.table.State(i) != f.state || p.table.Head(i) != f.head || p.table.Black(i, true) != (used && f.colour) || p.table.Black(i, false) != (used && !f.colour) {
			t.Fatalf("P21.2: fragment %d: state %d, head %t, not %+v", i, p.table.State(i), p.table.Head(i), f)
		}
	}
	k := p.s.Coil()
	if k.Current() != p.m.current || k.Used(0) != p.m.used[0] || k.Used(1) != p.m.used[1] || k.Left() != p.m.kept || k.Room() != p.m.room() {
		t.Fatalf("P21.4: the coil: %d, %d, %d, %d, %d, not as %+v", k.Current(), k.Used(0), k.Used(1), k.Left(), k.Room(), *p.m)
	}
	if p.s.Waits() != len(p.m.waiting()) || p.s.Count() != p.m.count {
		t.Fatalf("P21.5: %d wait, Count %d: not %d, %d", p.s.Waits(), p.s.Count(), len(p.m.waiting()), p.m.count)
	}
}

// leaves takes all fragments, and frees those of pattern by its bits.
func (p pair) leaves(t *testing.T, pattern int) {
	t.Helper()
	p.does(t, ask(0, p.m.c.Frags, 0, true))
	for i := range p.m.c.Frags {
		if pattern>>i&1 == 1 {
			p.is(t, of("sweep", i, false), yes(true))
		}
	}
}

// far lists numbers that are nowhere, some of which would wrap to what is.
func far() []int {
	return []int{
		-1, -2, -3, -16, -256, math.MinInt32, -1 << 32, 1 - 1<<32, math.MinInt, math.MinInt + 1,
		1024, 2049, 1 << 16, math.MaxInt32, 1 << 32, 1<<32 + 1, 1 << 40, 1 << 61, 1 << 62, math.MaxInt - 1, math.MaxInt,
	}
}

// scattered answers a function that tells numbers of any bits, the same ones in
// every run.
func scattered() func() uint64 {
	state := uint64(21)
	return func() uint64 {
		state += 0x9E3779B97F4A7C15
		z := (state ^ state>>30) * 0xBF58476D1CE4E5B9
		z = (z ^ z>>27) * 0x94D049BB133111EB
		return z ^ z>>31
	}
}

// TestCalls: a space has the chapter's calls, and no call of what it is made of
// can be made past the count.
func TestCalls(t *testing.T) {
	want := []string{
		"Ask", "Begin", "Born", "Coil", "Count", "Done", "Drain", "End", "Force", "Free", "Look", "Serve", "Sweep", "Turn", "Waits", "Wants",
	}
	calls := reflect.TypeFor[*Space]()
	var got []string
	for i := range calls.NumMethod() {
		got = append(got, calls.Method(i).Name)
	}
	if !slices.Equal(got, want) {
		t.Errorf("P21.5: the calls are %v", got)
	}
	for _, field := range reflect.VisibleFields(reflect.TypeFor[Space]()) {
		if field.IsExported() {
			t.Errorf("P21.5: %s can be reached from outside", field.Name)
		}
	}
	if Waiting != 0 || Granted != 1 || Failed != 2 || None != 3 {
		t.Errorf("P21.2: the states are %d, %d, %d, %d", Waiting, Granted, Failed, None)
	}
}

// refuses fails the test unless New answers e, and leaves the table as it is.
func refuses(t *testing.T, c conf.Conf, n int, e api.Errno) {
	t.Helper()
	table, _ := tint.New(n)
	for i := range n {
		table.Set(i, api.Used, true, true)
	}
	if s, errno := New(c, table); s != nil || errno != e {
		t.Errorf("P21.1: New(%+v) of %d: a space: %t, %d, not %d", c, n, s != nil, errno, e)
	}
	for i := range n {
		if !table.Head(i) || !table.Black(i, true) {
			t.Errorf("P21.1: New(%+v) of %d changes %d", c, n, i)
		}
	}
}

func TestNewRefuses(t *testing.T) {
	spoil := []func(c *conf.Conf, n int){
		func(c *conf.Conf, n int) { c.Frags = n },
		func(c *conf.Conf, n int) { c.Spine = n },
		func(c *conf.Conf, n int) { c.Globals = n },
		func(c *conf.Conf, n int) { c.Threads = n },
		func(c *conf.Conf, n int) { c.Locals = n },
		func(c *conf.Conf, n int) { c.Cache = n },
		func(c *conf.Conf, n int) { c.Stack = n },
		func(c *conf.Conf, n int) { c.Low = n },
	}
	for k, change := range spoil {
		for _, n := range far() {
			c := fine(12, 9, 2, 1, 1)
			change(&c, n)
			// 1024 fragments and words of a spine may be.
			if e := conf.Check(c); e != api.OK {
				refuses(t, c, 12, api.ErrRange)
				c.Shapes = nil
				refuses(t, c, 11, api.ErrRange)
			} else if k > 1 {
				t.Errorf("P21.1: number %d may be %d", k, n)
			}
		}
	}
	none := fine(12, 9, 2, 1, 1)
	none.Shapes = nil
	bad := fine(12, 9, 2, 1, 1)
	bad.Shapes = []shape.Shape{{Array: true}}
	for _, n := range []int{0, 11, 12, 13} {
		refuses(t, none, n, api.ErrKind)
		refuses(t, bad, n, api.ErrKind)
	}
	for _, frags := range []int{4, 5, 12, 256, 1023, 1024} {
		for _, n := range []int{0, 1, frags - 1, frags + 1, 2 * frags, 1024 - frags} {
			if n != frags && n <= 1024 {
				refuses(t, fine(frags, 9, 2, 1, 1), n, api.ErrRange)
			}
		}
	}
	refuses(t, fine(12, 9, 4, 4, 1), 12, api.ErrRange)
}

// TestNew: at first all is free, whatever the table had.
func TestNew(t *testing.T) {
	for _, frags := range []int{4, 5, 16, 1024} {
		for _, spine := range []int{0, 1, 2048} {
			c := fine(frags, spine, 4, 1, 0)
			table, _ := tint.New(frags)
			for i := range frags {
				table.Set(i, i%3, i%2 == 0, i%4 == 0)
			}
			s, e := New(c, table)
			if s == nil || e != api.OK {
				t.Fatalf("P21.1: New(%+v): %d", c, e)
			}
			p := pair{s, table, modelOf(c)}
			p.standsAs(t)
			p.is(t, bare("wants"), yes(false))
			for thread := range 4 {
				p.is(t, of("drain", thread, false), answer{})
				p.is(t, of("look", thread, false), refused(None))
			}
			p.gets(t, ask(3, 1, spine, true), -1, frags-1)
			p.is(t, of("drain", 3, false), answer{n: 1})
		}
	}
}

// TestShared: the table that was handed in is the space's own, both ways.
func TestShared(t *testing.T) {
	p := made(t, fine(6, 0, 1, 0, 0))
	p.gets(t, ask(0, 6, 0, true), -1, 0, 1, 2, 3, 4, 5)
	if !p.table.Born(2) || p.s.Born(2) || !p.s.Born(3) || p.table.Born(3) {
		t.Error("P21.1: heads of the table are not those of the space")
	}
	if !p.table.Mark(1, false) || p.s.Sweep(1, false) || !p.s.Sweep(0, false) || p.table.State(0) != api.Free {
		t.Error("P21.1: colours of the table are not those of the space")
	}
}

// TestConf: what becomes of the conf that was handed in is no matter.
func TestConf(t *testing.T) {
	c := fine(8, 9, 1, 0, 0)
	p := made(t, c)
	c.Shapes[0].Refs[0] = false
	c.Shapes[0] = shape.Shape{Array: true}
	p.m.c = fine(8, 9, 1, 0, 0)
	p.leaves(t, 0b10101)
	p.gets(t, ask(0, 2, 4, true), 64, 0, 2)
}

// TestAskNone: what may not be asked for changes nothing, but is counted.
func TestAskNone(t *testing.T) {
	p := made(t, fine(12, 9, 3, 2, 0))
	for _, n := range far() {
		p.is(t, ask(n, 1, 0, true), refused(None))
		p.is(t, ask(n, n, n, true), refused(None))
		if n < 0 {
			p.is(t, ask(0, n, 0, true), refused(None))
			p.is(t, ask(1, 1, n, false), refused(None))
			p.is(t, ask(1, n, n, false), refused(None))
		}
	}
	p.is(t, ask(3, 1, 0, true), refused(None))
	p.is(t, ask(0, 0, 0, true), refused(None))
	p.is(t, ask(0, 0, 3, true), refused(None))
	p.gets(t, ask(2, 1, 0, true), -1, 11)
	// A stock does not serve what may not be asked for, either.
	p.is(t, ask(2, 0, 0, true), refused(None))
	p.is(t, ask(2, 1, -1, true), refused(None))
}

// TestAskWhileThere: a thread that has a request in the line gets no other one,
// until it has looked at the answer.
func TestAskWhileThere(t *testing.T) {
	p := made(t, fine(12, 9, 3, 2, 0))
	p.gets(t, ask(0, 1, 0, true), -1, 11)
	p.is(t, ask(0, 12, 0, true), refused(Waiting))
	for _, frags := range []int{1, 2, 12, math.MaxInt} {
		p.is(t, ask(0, frags, 0, true), refused(None))
	}
	for range 2 {
		p.does(t, bare("begin"))
		p.does(t, bare("end"))
	}
	p.is(t, of("serve", 0, true), yes(true))
	p.is(t, ask(0, 1, 0, true), refused(None))
	p.is(t, of("look", 0, false), refused(Failed))
	p.gets(t, ask(0, 1, 0, true), -1, 0)
	p.is(t, ask(0, 12, 0, true), refused(Waiting))
	for i := range 12 {
		p.does(t, of("sweep", i, false))
	}
	p.does(t, of("drain", 0, false))
	p.is(t, of("serve", 0, false), yes(true))
	p.is(t, ask(0, 1, 0, true), refused(None))
	p.is(t, of("look", 0, false), answer{grant: Grant{Granted, []int{0, 1, 2, 3, 4, 5, 6, 7, 8, 9, 10, 11}, -1}})
	p.is(t, ask(0, 1, 0, true), refused(Waiting))
}

// TestAskMuch: whatever is asked for waits, if it is too much.
func TestAskMuch(t *testing.T) {
	for _, n := range far() {
		if n < 0 {
			continue
		}
		p := made(t, fine(12, 9, 3, 2, 0))
		p.is(t, ask(0, n, 0, true), refused(Waiting))
		p.is(t, ask(1, n, n, true), refused(Waiting))
		p.is(t, of("serve", 0, true), yes(false))
		q := made(t, fine(12, 9, 3, 0, 0))
		// A run needs no spine, however long it were.
		q.gets(t, ask(0, 2, n, true), -1, 10, 11)
		q.gets(t, ask(0, 10, 0, true), -1, 0, 1, 2, 3, 4, 5, 6, 7, 8, 9)
		q.is(t, of("sweep", 3, false), yes(true))
		q.is(t, of("sweep", 7, false), yes(true))
		q.is(t, ask(1, 2, n, true), refused(Waiting))
	}
}

// TestStock: a thread's own stock serves it first, and is filled only when
// something is granted from the pool at once.
func TestStock(t *testing.T) {
	p := made(t, fine(20, 9, 3, 3, 0))
	p.gets(t, ask(0, 1, 0, true), -1, 19)
	p.gets(t, ask(1, 1, 0, true), -1, 18)
	// Those of the stocks are 0, 1, 2 and 3, 4, 5.
	p.gets(t, ask(0, 2, 0, false), -1, 0, 1)
	p.gets(t, ask(1, 3, 0, true), -1, 3, 4, 5)
	// Too few are left for two: the pool, and the stock is filled behind 2.
	p.gets(t, ask(0, 2, 0, true), -1, 16, 17)
	p.gets(t, ask(0, 3, 0, true), -1, 2, 6, 7)
	// A spine is asked for: not from the stock, though it has enough.
	p.gets(t, ask(1, 1, 0, true), -1, 15)
	p.gets(t, ask(1, 1, 4, true), -1, 14)
	p.is(t, of("drain", 1, false), answer{n: 3})
	p.is(t, of("drain", 1, false), answer{})
	p.gets(t, ask(2, 2, 0, true), -1, 12, 13)
	p.is(t, of("drain", 2, false), answer{n: 3})
}

// TestStockWhileOneWaits: what is a thread's own no line takes away.
func TestStockWhileOneWaits(t *testing.T) {
	p := made(t, fine(12, 9, 3, 2, 0))
	p.gets(t, ask(0, 1, 0, true), -1, 11)
	p.is(t, ask(1, 12, 0, true), refused(Waiting))
	p.gets(t, ask(0, 2, 0, true), -1, 0, 1)
	p.is(t, ask(0, 1, 0, true), refused(Waiting))
	p.is(t, ask(2, 1, 0, true), refused(Waiting))
	if p.s.Free() != 9 {
		t.Errorf("P21.6: %d are free", p.s.Free())
	}
}

// TestFits holds each pattern of what is free against the model, with all that
// can be asked for, at once and out of the line.
func TestFits(t *testing.T) {
	const n, spine = 6, 4
	for pattern := range 1 << n {
		for frags := 1; frags <= n+1; frags++ {
			for words := range spine + 2 {
				for used := range 2 {
					p := made(t, fine(n, spine, 2, used, 0))
					p.leaves(t, pattern)
					p.does(t, ask(0, frags, words, false))
					p.does(t, ask(1, frags, words, false))
					p.does(t, of("serve", 0, true))
					p.does(t, of("look", 0, false))
					p.does(t, of("look", 1, false))
				}
			}
		}
	}
}

// TestSpine: spines lie behind one another, in the space that is the current
// one, and those that are to be copied keep their room.
func TestSpine(t *testing.T) {
	p := made(t, fine(20, 10, 2, 0, 0))
	p.leaves(t, 0x55555)
	p.gets(t, ask(0, 2, 3, true), 160, 0, 2)
	p.gets(t, ask(0, 2, 1, true), 163, 4, 6)
	p.gets(t, ask(0, 1, 9, true), -1, 18)
	p.is(t, bare("turn"), yes(true))
	p.is(t, bare("turn"), yes(false))
	p.gets(t, ask(0, 2, 6, false), 170, 8, 10)
	p.is(t, ask(1, 2, 1, true), refused(Waiting))
	p.is(t, call{name: "copy", spine: 3}, yes(true))
	p.is(t, of("serve", 0, true), yes(false))
	p.is(t, bare("done"), yes(false))
	p.is(t, call{name: "skip", spine: 1}, yes(true))
	p.is(t, bare("done"), yes(true))
	p.is(t, of("serve", 0, true), yes(true))
	p.is(t, of("look", 1, true), answer{grant: Grant{Granted, []int{12, 14}, 179}})
	p.is(t, bare("turn"), yes(true))
	p.is(t, ask(0, 3, 1, true), refused(Waiting))
}

// TestNoSpines: a heap without spines has arrays that stand side by side.
func TestNoSpines(t *testing.T) {
	p := made(t, fine(8, 0, 2, 0, 0))
	p.leaves(t, 0b11010101)
	p.gets(t, ask(0, 2, 3, true), -1, 6, 7)
	p.is(t, ask(0, 2, 1, true), refused(Waiting))
	p.is(t, of("sweep", 1, false), yes(true))
	p.is(t, of("serve", 0, true), yes(true))
	p.is(t, of("look", 0, false), answer{grant: Grant{Granted, []int{1, 2}, -1}})
}

// TestSenses: what is granted has the sense of who grants it, and is no head,
// though it was one.
func TestSenses(t *testing.T) {
	for _, asked := range []bool{false, true} {
		for _, served := range []bool{false, true} {
			p := made(t, fine(4, 0, 2, 1, 0))
			p.gets(t, ask(0, 3, 0, asked), -1, 1, 2, 3)
			p.gets(t, ask(0, 1, 0, served), -1, 0)
			for i := range 4 {
				p.is(t, of("born", i, false), yes(true))
				p.is(t, of("born", i, false), yes(false))
			}
			p.is(t, ask(1, 2, 0, asked), refused(Waiting))
			p.is(t, of("sweep", 2, asked), yes(false))
			p.is(t, of("sweep", 2, !asked), yes(true))
			p.is(t, of("sweep", 3, !asked), yes(true))
			p.is(t, of("serve", 0, served), yes(true))
			p.is(t, of("look", 1, false), answer{grant: Grant{Granted, []int{2, 3}, -1}})
			p.is(t, of("born", 2, false), yes(true))
		}
	}
}

func TestBornAndSweepOfNone(t *testing.T) {
	p := made(t, fine(12, 9, 2, 2, 0))
	p.gets(t, ask(0, 1, 0, true), -1, 11)
	for _, i := range append(far(), 12, 13, 24) {
		p.is(t, of("born", i, false), yes(false))
		p.is(t, of("sweep", i, false), yes(false))
	}
	// Cached and free ones are neither.
	for i := range 11 {
		for _, sense := range []bool{false, true} {
			p.is(t, of("born", i, sense), yes(false))
			p.is(t, of("sweep", i, sense), yes(false))
		}
	}
}

func TestLookAndDrainOfNone(t *testing.T) {
	p := made(t, fine(12, 9, 2, 2, 0))
	p.gets(t, ask(0, 1, 0, true), -1, 11)
	for _, thread := range append(far(), 2, 3) {
		p.is(t, of("look", thread, false), refused(None))
		p.is(t, of("drain", thread, false), answer{})
	}
	p.is(t, of("look", 0, false), refused(None))
	p.is(t, of("drain", 1, false), answer{})
	p.is(t, of("drain", 0, false), answer{n: 2})
	// What a thread was granted it keeps.
	if p.table.State(11) != api.Used {
		t.Error("P21.3: Drain frees what is used")
	}
}

// TestLook: who waits is told so again and again, what is settled once.
func TestLook(t *testing.T) {
	p := made(t, fine(4, 0, 3, 0, 0))
	p.gets(t, ask(0, 4, 0, true), -1, 0, 1, 2, 3)
	p.is(t, ask(1, 1, 0, true), refused(Waiting))
	p.is(t, ask(2, 4, 0, true), refused(Waiting))
	for range 3 {
		p.is(t, of("look", 1, false), refused(Waiting))
		p.is(t, of("look", 2, false), refused(Waiting))
		p.is(t, of("look", 0, false), refused(None))
	}
	p.is(t, of("sweep", 3, false), yes(true))
	for range 2 {
		p.does(t, bare("begin"))
		p.does(t, bare("end"))
	}
	p.is(t, of("serve", 0, false), yes(true))
	p.is(t, of("serve", 0, false), yes(true))
	p.is(t, of("look", 2, false), refused(Failed))
	p.is(t, of("look", 2, false), refused(None))
	p.is(t, of("look", 1, false), answer{grant: Grant{Granted, []int{3}, -1}})
	p.is(t, of("look", 1, false), refused(None))
}

// TestDrainWhileOneWaits: who waits may give its stock back.
func TestDrainWhileOneWaits(t *testing.T) {
	p := made(t, fine(8, 0, 1, 4, 0))
	p.gets(t, ask(0, 1, 0, true), -1, 7)
	p.is(t, ask(0, 7, 0, true), refused(Waiting))
	p.is(t, of("serve", 0, true), yes(false))
	p.is(t, of("drain", 0, false), answer{n: 4})
	p.is(t, of("serve", 0, true), yes(true))
	p.is(t, of("look", 0, false), answer{grant: Grant{Granted, []int{0, 1, 2, 3, 4, 5, 6}, -1}})
	// What is served does not fill the stock.
	p.is(t, of("drain", 0, false), answer{})
}

// TestWants: one reason is enough, and each passes by itself.
func TestWants(t *testing.T) {
	for low := range 7 {
		p := made(t, fine(6, 0, 2, 1, low))
		for free := 6; free >= 0; {
			p.is(t, bare("wants"), yes(free < low))
			if free == 0 {
				break
			}
			p.does(t, ask(0, 1, 0, true))
			free = p.s.Free()
		}
	}
	p := made(t, fine(6, 0, 2, 0, 0))
	p.is(t, bare("end"), answer{})
	p.is(t, bare("wants"), yes(false))
	for range 2 {
		p.is(t, bare("force"), answer{})
		p.is(t, bare("force"), answer{})
		p.is(t, bare("end"), answer{})
		p.is(t, of("serve", 0, true), yes(false))
		p.is(t, bare("wants"), yes(true))
		p.is(t, bare("wants"), yes(true))
		p.is(t, bare("begin"), answer{})
		p.is(t, bare("wants"), yes(false))
	}
	p.is(t, ask(0, 7, 0, true), refused(Waiting))
	p.is(t, bare("begin"), answer{})
	p.is(t, bare("wants"), yes(true))
	p.is(t, bare("end"), answer{})
	p.is(t, bare("begin"), answer{})
	p.is(t, bare("end"), answer{})
	p.is(t, of("serve", 0, true), yes(true))
	// It Failed, and nobody looked yet: nobody waits.
	p.is(t, bare("wants"), yes(false))
}

// TestCycles: who came within a cycle has not waited for a whole one; who can be
// granted something is, however long it waited.
func TestCycles(t *testing.T) {
	p := made(t, fine(4, 0, 3, 0, 0))
	p.gets(t, ask(0, 4, 0, true), -1, 0, 1, 2, 3)
	p.is(t, ask(0, 2, 0, true), refused(Waiting))
	p.does(t, bare("begin"))
	p.is(t, ask(1, 1, 0, true), refused(Waiting))
	p.does(t, bare("end"))
	p.does(t, bare("end"))
	p.is(t, of("serve", 0, true), yes(false))
	p.does(t, bare("begin"))
	p.does(t, bare("begin"))
	p.does(t, bare("end"))
	// The first one has two, the second one only one.
	p.is(t, of("serve", 0, true), yes(true))
	p.is(t, of("serve", 0, true), yes(false))
	p.is(t, of("look", 0, false), refused(Failed))
	p.is(t, of("look", 1, false), refused(Waiting))
	for range 3 {
		p.does(t, bare("begin"))
		p.does(t, bare("end"))
	}
	p.is(t, ask(0, 1, 0, true), refused(Waiting))
	p.is(t, of("sweep", 2, false), yes(true))
	p.is(t, of("serve", 0, true), yes(true))
	p.is(t, of("look", 1, false), answer{grant: Grant{Granted, []int{2}, -1}})
	p.is(t, of("serve", 0, true), yes(false))
	for range 3 {
		p.does(t, bare("begin"))
		p.does(t, bare("end"))
	}
	p.is(t, of("serve", 0, true), yes(true))
	p.is(t, of("look", 0, false), refused(Failed))
}

// TestInOrder: nobody behind one that waits is served ahead of it, by Ask or by
// Serve, whatever is free.
func TestInOrder(t *testing.T) {
	const threads = 5
	p := made(t, fine(20, 0, threads, 0, 0))
	p.gets(t, ask(0, 20, 0, true), -1, 0, 1, 2, 3, 4, 5, 6, 7, 8, 9, 10, 11, 12, 13, 14, 15, 16, 17, 18, 19)
	for k := range threads {
		p.is(t, ask(threads-1-k, threads-k, 0, true), refused(Waiting))
	}
	for i := range 4 {
		p.is(t, of("sweep", i, false), yes(true))
		p.is(t, of("serve", 0, true), yes(false))
	}
	p.is(t, of("sweep", 4, false), yes(true))
	p.is(t, of("serve", 0, true), yes(true))
	p.is(t, of("serve", 0, true), yes(false))
	for i := 5; i < 9; i++ {
		p.is(t, of("sweep", i, false), yes(true))
	}
	p.is(t, of("look", threads-1, false), answer{grant: Grant{Granted, []int{0, 1, 2, 3, 4}, -1}})
	// It asks anew: it stands behind all.
	p.is(t, ask(threads-1, 1, 0, true), refused(Waiting))
	p.is(t, of("serve", 0, true), yes(true))
	p.is(t, of("look", threads-1, false), refused(Waiting))
	p.is(t, of("look", threads-2, false), answer{grant: Grant{Granted, []int{5, 6, 7, 8}, -1}})
}

// TestCount: each of the twelve counts one, whatever it answers; no other does.
func TestCount(t *testing.T) {
	p := made(t, fine(4, 0, 1, 0, 0))
	n := 0
	for range 2 {
		for _, c := range []call{
			ask(0, 1, 0, true), ask(-1, 1, 0, true), ask(0, 9, 0, true), of("born", 3, false), of("born", -1, false),
			of("look", 0, false), of("look", -1, false), of("drain", 0, false), of("drain", -1, false),
			bare("wants"), bare("force"), bare("begin"), bare("turn"), bare("done"), of("sweep", 3, false),
			of("sweep", -1, false), bare("end"), of("serve", 0, true),
		} {
			p.does(t, c)
			n++
			if p.s.Count() != n {
				t.Fatalf("P21.5: behind %+v Count is %d, not %d", c, p.s.Count(), n)
			}
		}
	}
	for range 3 {
		p.s.Coil().Room()
		p.s.Coil().Take(1)
		p.s.Waits()
		p.s.Free()
		p.s.Count()
	}
	if p.s.Count() != n {
		t.Errorf("P21.5: Count is %d, not %d", p.s.Count(), n)
	}
	if p.s.Coil() != p.s.Coil() {
		t.Error("P21.5: Coil is not shared")
	}
}

// spoil writes into all of a list's memory.
func spoil(l []int) {
	l = l[:cap(l)]
	for i := range l {
		l[i] = -7
	}
	_ = append(l, -7)
}

// TestMemory: what a caller does with a list shows nowhere.
func TestMemory(t *testing.T) {
	p := made(t, fine(32, 9, 2, 4, 0))
	spoil(p.s.Ask(0, 2, 0, true).Got)
	p.m.do(ask(0, 2, 0, true))
	spoil(p.s.Ask(0, 1, 0, true).Got)
	p.m.do(ask(0, 1, 0, true))
	p.gets(t, ask(0, 2, 0, true), -1, 1, 2)
	p.is(t, of("drain", 0, false), answer{n: 1})
	p.gets(t, ask(0, 2, 0, true), -1, 28, 29)
	p.gets(t, ask(1, 20, 0, true), -1, 8, 9, 10, 11, 12, 13, 14, 15, 16, 17, 18, 19, 20, 21, 22, 23, 24, 25, 26, 27)
	p.is(t, ask(1, 5, 0, true), refused(Waiting))
	p.is(t, of("drain", 0, false), answer{n: 4})
	p.is(t, of("serve", 0, true), yes(false))
	p.is(t, of("sweep", 4, false), yes(false))
	p.is(t, of("sweep", 28, false), yes(true))
	p.is(t, of("serve", 0, true), yes(true))
	p.is(t, ask(0, 1, 0, true), refused(Waiting))
	p.m.do(of("look", 1, false))
	spoil(p.s.Look(1).Got)
	p.standsAs(t)
	p.does(t, of("look", 0, false))
	p.does(t, of("serve", 0, false))
}

// TestSpacesStandApart: what is done in one shows in no other one.
func TestSpacesStandApart(t *testing.T) {
	c := fine(8, 6, 2, 1, 2)
	p, q := made(t, c), made(t, c)
	p.does(t, ask(0, 7, 0, true))
	p.does(t, ask(1, 7, 0, true))
	p.does(t, bare("force"))
	q.standsAs(t)
	q.is(t, bare("wants"), yes(false))
	q.is(t, of("look", 1, true), refused(None))
	q.gets(t, ask(1, 2, 0, true), -1, 6, 7)
	q.does(t, bare("begin"))
	p.is(t, bare("wants"), yes(true))
	p.is(t, of("drain", 1, true), answer{})
}

// smallCalls are those that the short runs are made of.
func smallCalls() []call {
	return []call{
		ask(0, 1, 0, true), ask(0, 2, 2, true), ask(1, 3, 1, false), ask(1, 1, 0, true), of("look", 0, false), of("look", 1, false),
		of("drain", 0, false), of("sweep", 2, false), of("sweep", 0, true), of("serve", 0, false), bare("wants"),
	}
}

// TestShortRuns makes all runs of five of eleven calls.
func TestShortRuns(t *testing.T) {
	const length = 5
	calls := smallCalls()
	runs := 1
	for range length {
		runs *= len(calls)
	}
	c := fine(4, 2, 2, 1, 2)
	for run := range runs {
		p := made(t, c)
		for range length {
			p.does(t, calls[run%len(calls)])
			run /= len(calls)
		}
	}
}

// TestCycleRuns makes all runs of six of seven calls about cycles and spines, where one
// waits already.
func TestCycleRuns(t *testing.T) {
	const length = 6
	calls := []call{
		bare("begin"), bare("end"), of("serve", 0, true), bare("turn"), bare("done"), {name: "skip", spine: 2}, ask(0, 2, 2, true),
	}
	runs := 1
	for range length {
		runs *= len(calls)
	}
	c := fine(8, 4, 3, 0, 0)
	for run := range runs {
		p := made(t, c)
		p.leaves(t, 0b10101)
		p.gets(t, ask(2, 1, 0, true), -1, 4)
		p.gets(t, ask(2, 2, 2, true), 64, 0, 2)
		p.is(t, of("sweep", 0, false), yes(true))
		p.is(t, of("sweep", 2, false), yes(true))
		p.is(t, ask(1, 2, 3, true), refused(Waiting))
		for range length {
			p.does(t, calls[run%len(calls)])
			run /= len(calls)
		}
		p.does(t, of("look", 0, false))
		p.does(t, of("look", 1, false))
	}
}

// anyCall is a call of any sort, of numbers at and past their bounds.
func anyCall(next func() uint64, c conf.Conf) call {
	among := func(n int) int { return int(next() % uint64(n)) }
	thread, frag := among(c.Threads+2)-1, among(c.Frags+2)-1
	sense := next()%2 == 0
	switch among(16) {
	case 0, 1, 2, 3:
		return ask(thread, among(c.Frags/2+2), among(5)*among(3), sense)
	case 4, 5:
		return of("look", thread, sense)
	case 6:
		return of("drain", thread, sense)
	case 7, 8, 9:
		return of("sweep", frag, sense)
	case 10:
		return of("serve", 0, sense)
	case 11:
		return of("born", frag, sense)
	case 12:
		return call{name: []string{"copy", "skip"}[among(2)], spine: among(4)}
	case 13:
		return bare([]string{"turn", "done"}[among(2)])
	}
	return bare([]string{"wants", "force", "begin", "end"}[among(4)])
}

func TestLongRuns(t *testing.T) {
	next := scattered()
	for _, c := range []conf.Conf{
		fine(4, 0, 1, 0, 0), fine(6, 5, 2, 1, 1), fine(16, 12, 3, 2, 3), fine(16, 0, 4, 4, 16), fine(40, 30, 16, 2, 5), fine(64, 20, 8, 8, 9),
	} {
		for range 40 {
			p := made(t, c)
			for range 400 {
				p.does(t, anyCall(next, c))
			}
		}
	}
}

// TestLongRunsOfCycles: each cycle is whole; who waits is answered within the
// third one.
func TestLongRunsOfCycles(t *testing.T) {
	next := scattered()
	for _, c := range []conf.Conf{fine(6, 5, 3, 1, 1), fine(24, 12, 6, 2, 3), fine(40, 30, 16, 2, 5)} {
		p := made(t, c)
		since := make([]int, c.Threads)
		sense := false
		for range 300 {
			p.does(t, bare("begin"))
			for range 20 {
				thread := int(next() % uint64(c.Threads))
				if p.does(t, ask(thread, 1+int(next()%uint64(c.Frags)), int(next()%6), sense)).grant.State == Waiting {
					since[thread] = 0
				}
			}
			sense = !sense
			for i := range c.Frags {
				if next()%3 == 0 {
					p.does(t, of("sweep", i, sense))
				}
			}
			p.does(t, bare("end"))
			for p.does(t, of("serve", 0, sense)).yes {
			}
			for thread := range c.Threads {
				since[thread]++
				if p.does(t, of("look", thread, false)).grant.State == Waiting && since[thread] > 2*c.Threads+1 {
					t.Fatalf("P21.4: thread %d waits for %d cycles", thread, since[thread])
				}
			}
		}
	}
}

// TestLimits: a space of the greatest numbers.
func TestLimits(t *testing.T) {
	c := fine(1024, 2048, 16, 8, 1024)
	p := made(t, c)
	for thread := range 16 {
		p.gets(t, ask(thread, 1, 2048, true), -1, 1023-thread)
	}
	if _, cached, _ := p.table.Counts(); cached != 128 {
		t.Errorf("P21.2: %d are cached", cached)
	}
	p.is(t, bare("wants"), yes(true))
	for i := 1007; i >= 128; i-- {
		p.gets(t, ask(15, 1, 1, true), -1, i)
	}
	for i := 128; i < 1008; i += 2 {
		p.is(t, of("sweep", i, false), yes(true))
	}
	got := p.does(t, ask(3, 2, 2048, true)).grant
	if got.At != 8192 || !slices.Equal(got.Got, []int{128, 130}) {
		t.Errorf("P21.2: %+v", got)
	}
	p.is(t, bare("turn"), yes(true))
	p.is(t, ask(4, 2, 1, true), refused(Waiting))
	p.is(t, call{name: "skip", spine: 2048}, yes(true))
	p.is(t, bare("done"), yes(true))
	p.is(t, ask(5, 2, 2047, true), refused(Waiting))
	p.is(t, of("serve", 0, true), yes(true))
	p.is(t, of("serve", 0, true), yes(true))
	p.is(t, of("look", 4, false), answer{grant: Grant{Granted, []int{132, 134}, 8192 + 2048}})
	p.is(t, of("look", 5, false), answer{grant: Grant{Granted, []int{136, 138}, 8192 + 2048 + 1}})
}

// TestExample is the chapter's own.
func TestExample(t *testing.T) {
	p := made(t, fine(9, 0, 1, 0, 0))
	p.gets(t, ask(0, 1, 0, true), -1, 8)
}
