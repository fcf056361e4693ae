package core

import (
	"math"
	"reflect"
	"slices"
	"testing"

	"spolia/api"
	"spolia/conf"
	"spolia/hand"
	"spolia/mem"
	"spolia/num"
	"spolia/shade"
	"spolia/shape"
	"spolia/space"
)

// nothing is the reference to nothing, written out, that a slip in the making of
// words can't hide one here.
const nothing = 0 + 1i

// fine is a conf that may be, with every number off its bounds and unlike the
// others.
func fine() conf.Conf {
	return conf.Conf{
		Frags: 40, Spine: 30, Globals: 3, Threads: 4, Locals: 2, Cache: 5, Stack: 7, Low: 6,
		Shapes: []shape.Shape{{Refs: []bool{true, false, true}}, {Array: true, Refs: []bool{true}}, {}},
	}
}

// bare is fine with no stocks, so that what is taken from the pool is what was
// asked for.
func bare() conf.Conf {
	c := fine()
	c.Cache = 0
	return c
}

// number is one of a conf's, what it may be at least and at most in fine, and
// how it is set.
type number struct {
	name      string
	low, high int
	set       func(c *conf.Conf, n int)
}

func numbers() []number {
	return []number{
		{"Frags", 20, 1024, func(c *conf.Conf, n int) { c.Frags = n }},
		{"Spine", 0, 2048, func(c *conf.Conf, n int) { c.Spine = n }},
		{"Globals", 0, 8, func(c *conf.Conf, n int) { c.Globals = n }},
		{"Threads", 1, 8, func(c *conf.Conf, n int) { c.Threads = n }},
		{"Locals", 1, 8, func(c *conf.Conf, n int) { c.Locals = n }},
		{"Cache", 0, 8, func(c *conf.Conf, n int) { c.Cache = n }},
		{"Stack", 1, 256, func(c *conf.Conf, n int) { c.Stack = n }},
		{"Low", 0, 40, func(c *conf.Conf, n int) { c.Low = n }},
	}
}

// confs lists those that may be: each number at and beside its bounds, and all
// at once.
func confs() []conf.Conf {
	all := []conf.Conf{fine(), least(), greatest()}
	for _, number := range numbers() {
		for _, n := range []int{number.low, number.low + 1, number.high - 1, number.high} {
			c := fine()
			number.set(&c, n)
			all = append(all, c)
		}
	}
	return all
}

func least() conf.Conf {
	return conf.Conf{Frags: 4, Threads: 1, Locals: 1, Stack: 1, Shapes: []shape.Shape{{}}}
}

func greatest() conf.Conf {
	shapes := make([]shape.Shape, 8)
	for kind := range shapes {
		shapes[kind].Refs = make([]bool, 40)
	}
	return conf.Conf{
		Frags: 1024, Spine: 2048, Globals: 8, Threads: 16, Locals: 8, Cache: 8, Stack: 256, Low: 1024, Shapes: shapes,
	}
}

// far lists numbers that are in no bounds, some of which would wrap to one.
func far() []int {
	return []int{
		-1, -2, -40, -256, math.MinInt32, -1 << 32, 4 - 1<<32, math.MinInt, math.MinInt + 1,
		2049, 1 << 16, math.MaxInt32, 1 << 32, 1<<32 + 4, 1 << 40, 1 << 61, 1 << 62, math.MaxInt - 1, math.MaxInt,
	}
}

func made(t *testing.T, c conf.Conf) *Core {
	t.Helper()
	k, e := New(c)
	if k == nil || e != api.OK {
		t.Fatalf("P22.1: New(%+v): a core: %t, %d", c, k != nil, e)
	}
	return k
}

// asAtFirst fails the test unless all of k that can be told without a call that
// counts is as a new core of c has it.
func asAtFirst(t *testing.T, what string, k *Core, c conf.Conf) {
	t.Helper()
	if !reflect.DeepEqual(conf.Copy(k.Conf), conf.Copy(c)) {
		t.Fatalf("P22.1: %s: Conf is %+v, not %+v", what, k.Conf, c)
	}
	wordsAtFirst(t, what, k, c)
	roomAtFirst(t, what, k, c)
	if k.Shade.Len() != 0 {
		t.Fatalf("P22.1: %s: %d on the pile", what, k.Shade.Len())
	}
	for _, p := range append(far(), c.Threads) {
		if s := k.Hand.Status(p); s != -1 {
			t.Fatalf("P22.1: %s: thread %d has status %d", what, p, s)
		}
	}
	for p := range c.Threads {
		if s := k.Hand.Status(p); s != -1 {
			t.Fatalf("P22.1: %s: thread %d has status %d", what, p, s)
		}
	}
	if l := countsOf(k); l != [4]int{} || k.Count() != 0 {
		t.Fatalf("P22.2: %s: counted %v, %d", what, l, k.Count())
	}
}

func wordsAtFirst(t *testing.T, what string, k *Core, c conf.Conf) {
	t.Helper()
	globals := 8*c.Frags + 2*c.Spine
	if k.Mem.Len() != globals+c.Globals {
		t.Fatalf("P22.1: %s: %d words, not %d", what, k.Mem.Len(), globals+c.Globals)
	}
	for a := range k.Mem.Len() {
		want := complex128(0)
		if a >= globals {
			want = nothing
		}
		if w := k.Mem.Peek(a); !num.Same(w, want) {
			t.Fatalf("P22.1: %s: word %d is %v, not %v", what, a, w, want)
		}
	}
}

func roomAtFirst(t *testing.T, what string, k *Core, c conf.Conf) {
	t.Helper()
	table := k.Shade.Table()
	if free, cached, used := table.Counts(); free != c.Frags || cached != 0 || used != 0 || table.Len() != c.Frags {
		t.Fatalf("P22.1: %s: %d, %d, %d of %d fragments", what, free, cached, used, table.Len())
	}
	if k.Space.Free() != c.Frags || k.Space.Waits() != 0 {
		t.Fatalf("P22.1: %s: %d in the pool, %d wait", what, k.Space.Free(), k.Space.Waits())
	}
	spines := k.Space.Coil()
	if spines.Current() != 0 || spines.Used(0) != 0 || spines.Used(1) != 0 || spines.Left() != 0 || spines.Room() != c.Spine {
		t.Fatalf("P22.1: %s: room for %d words of spines, not %d", what, spines.Room(), c.Spine)
	}
}

func countsOf(k *Core) [4]int {
	return [4]int{k.Mem.Count(), k.Shade.Count(), k.Space.Count(), k.Hand.Count()}
}

func TestExample(t *testing.T) {
	c := fine()
	c.Frags = 3
	if k, e := New(c); k != nil || e != conf.Check(c) || e != api.ErrRange {
		t.Errorf("P22.1: New of 3 fragments: a core: %t, %d", k != nil, e)
	}
}

// TestCalls: a core is plain values, in the chapter's order, and one call.
func TestCalls(t *testing.T) {
	want := []reflect.Type{
		reflect.TypeFor[conf.Conf](), reflect.TypeFor[*mem.Mem](), reflect.TypeFor[*shade.Shade](),
		reflect.TypeFor[*space.Space](), reflect.TypeFor[*hand.Hand](),
	}
	names := []string{"Conf", "Mem", "Shade", "Space", "Hand"}
	var types []reflect.Type
	for k, field := range reflect.VisibleFields(reflect.TypeFor[Core]()) {
		types = append(types, field.Type)
		if k >= len(names) || field.Name != names[k] || field.Anonymous {
			t.Errorf("P22.1: field %d is %s", k, field.Name)
		}
	}
	if !slices.Equal(types, want) {
		t.Errorf("P22.1: the fields are %v", types)
	}
	calls := reflect.TypeFor[*Core]()
	if calls.NumMethod() != 1 || calls.Method(0).Name != "Count" {
		t.Errorf("P22.1: there are %d calls", calls.NumMethod())
	}
}

func TestLimits(t *testing.T) {
	if api.MaxFrags != 1024 || api.MaxSpine != 2048 || api.MaxGlobals != 8 || api.MaxThreads != 16 || api.MaxLocals != 8 ||
		api.MaxCache != 8 || api.MaxStack != 256 || api.MaxShapes != 8 || api.MaxFields != 40 || api.FragWords != 8 ||
		api.ErrRange != 1 || api.ErrKind != 4 || api.Still != 0 {
		t.Fatal("the tests of chapter 22 are written for other limits")
	}
}

func TestNew(t *testing.T) {
	for _, c := range confs() {
		k := made(t, c)
		asAtFirst(t, "a new core", k, c)
		asAtFirst(t, "asked once more", k, c)
	}
}

// TestNewAnswers: what can be told only by calls that count is as at first, too.
func TestNewAnswers(t *testing.T) {
	for _, c := range confs() {
		k := made(t, c)
		if status, sense := k.Hand.Look(); status != api.Still || sense {
			t.Errorf("P22.1: %+v: the status is %d, the sense %t", c, status, sense)
		}
		if k.Space.Wants() || k.Space.Serve(true) || k.Shade.Lost() {
			t.Errorf("P22.1: %+v: a cycle is wanted, one is served, or something is lost", c)
		}
		if i, ok := k.Shade.Next(); ok {
			t.Errorf("P22.1: %+v: %d is on the pile", c, i)
		}
		for p := range c.Threads {
			if n, g := k.Space.Drain(p), k.Space.Look(p); n != 0 || g.State != space.None {
				t.Errorf("P22.1: %+v: thread %d has %d, and asked: %+v", c, p, n, g)
			}
			if status, sense, ok := k.Hand.Join(p); status != api.Still || sense || !ok {
				t.Errorf("P22.1: %+v: Join(%d): %d, %t, %t", c, p, status, sense, ok)
			}
		}
		for _, p := range append(far(), c.Threads) {
			_, _, ok := k.Hand.Join(p)
			if g := k.Space.Ask(p, 1, 0, true); ok || g.State != space.None {
				t.Errorf("P22.1: %+v: there is a thread %d: %t, %+v", c, p, ok, g)
			}
		}
		if n := 5 + 3*c.Threads + 2*(len(far())+1); k.Count() != n {
			t.Errorf("P22.1: %+v: Count is %d, not %d", c, k.Count(), n)
		}
	}
}

// refuses fails the test unless New answers what Check does, and e.
func refuses(t *testing.T, c conf.Conf, e api.Errno) {
	t.Helper()
	if conf.Check(c) != e {
		t.Fatalf("P22.1: Check(%+v) is not %d", c, e)
	}
	if k, errno := New(c); k != nil || errno != e {
		t.Errorf("P22.1: New(%+v): a core: %t, %d, not %d", c, k != nil, errno, e)
	}
}

func TestNewRefuses(t *testing.T) {
	refuses(t, conf.Conf{}, api.ErrRange)
	for _, number := range numbers() {
		for _, n := range append(far(), -1, 2049) {
			c := fine()
			number.set(&c, n)
			refuses(t, c, api.ErrRange)
			c.Shapes = nil
			refuses(t, c, api.ErrRange)
		}
	}
	for _, c := range beyond() {
		refuses(t, c, api.ErrRange)
	}
	shapes := greatest().Shapes
	for _, l := range [][]shape.Shape{
		nil, {}, {{Array: true}}, {{}, {Array: true, Refs: []bool{true, true}}}, {{Refs: make([]bool, 41)}}, append(shapes, shape.Shape{}),
	} {
		c := fine()
		c.Shapes = l
		refuses(t, c, api.ErrKind)
		c.Stack = 0
		refuses(t, c, api.ErrRange)
	}
}

// beyond lists confs that are one past a bound.
func beyond() []conf.Conf {
	small, large := least(), greatest()
	changes := []struct {
		c   conf.Conf
		set func(c *conf.Conf)
	}{
		{small, func(c *conf.Conf) { c.Frags-- }},
		{small, func(c *conf.Conf) { c.Spine-- }},
		{small, func(c *conf.Conf) { c.Globals-- }},
		{small, func(c *conf.Conf) { c.Threads-- }},
		{small, func(c *conf.Conf) { c.Locals-- }},
		{small, func(c *conf.Conf) { c.Cache-- }},
		{small, func(c *conf.Conf) { c.Stack-- }},
		{small, func(c *conf.Conf) { c.Low-- }},
		{small, func(c *conf.Conf) { c.Low = 5 }},
		{small, func(c *conf.Conf) { c.Cache = 5 }},
		{large, func(c *conf.Conf) { c.Frags++ }},
		{large, func(c *conf.Conf) { c.Spine++ }},
		{large, func(c *conf.Conf) { c.Globals++ }},
		{large, func(c *conf.Conf) { c.Threads++ }},
		{large, func(c *conf.Conf) { c.Locals++ }},
		{large, func(c *conf.Conf) { c.Cache++ }},
		{large, func(c *conf.Conf) { c.Stack++ }},
		{large, func(c *conf.Conf) { c.Low++ }},
	}
	var all []conf.Conf
	for _, change := range changes {
		c := change.c
		change.set(&c)
		all = append(all, c)
	}
	return all
}

// TestConf: neither is what was handed in kept, nor is what stands in the core
// another one's.
func TestConf(t *testing.T) {
	shapes := append(fine().Shapes, shape.Shape{Refs: []bool{true}})
	c := fine()
	c.Shapes = shapes[:3]
	k, twin := made(t, c), made(t, c)
	c.Shapes[0].Refs[0] = false
	c.Shapes[1] = shape.Shape{}
	c.Frags = 20
	asAtFirst(t, "behind a change of what was handed in", k, fine())

	c.Shapes[0].Refs[0], c.Shapes[1] = true, fine().Shapes[1]
	k.Conf.Shapes[0].Refs[0] = false
	k.Conf.Shapes[2] = shape.Shape{Array: true}
	_ = append(k.Conf.Shapes, shape.Shape{Array: true})
	_ = append(k.Conf.Shapes[0].Refs, false)
	want := fine().Shapes
	if !reflect.DeepEqual(c.Shapes, want) || !reflect.DeepEqual(shapes[3], shape.Shape{Refs: []bool{true}}) {
		t.Errorf("P22.1: a change of Conf changes what was handed in: %+v", shapes)
	}
	asAtFirst(t, "behind a change of another one's Conf", twin, fine())
}

// TestSpaceHasItsOwnConf: where a spine is laid hangs on the Conf that was handed
// in, not on what becomes of it or of the core's.
func TestSpaceHasItsOwnConf(t *testing.T) {
	c := bare()
	k := made(t, c)
	c.Shapes[0].Refs = make([]bool, 41)
	k.Conf = conf.Conf{}
	k.Space.Ask(0, 40, 0, true)
	for _, i := range []int{1, 3, 5} {
		k.Space.Sweep(i, false)
	}
	if g := k.Space.Ask(3, 3, 4, true); g.State != space.Granted || g.At != 320 || !slices.Equal(g.Got, []int{1, 3, 5}) {
		t.Errorf("P22.1: a spine of three that lie apart: %+v", g)
	}
}

// TestOneTable: what the space does shows in the shade's table, and what the
// shade does shows in the space.
func TestOneTable(t *testing.T) {
	k := made(t, bare())
	table := k.Shade.Table()
	k.Space.Ask(1, 2, 0, true)
	if table.State(39) != api.Used || table.State(38) != api.Used || table.State(37) != api.Free || table.Head(39) {
		t.Error("P22.1: what is granted does not show in the shade's table")
	}
	if !k.Space.Born(38) || !k.Shade.Black(38, true) || k.Shade.Black(39, true) {
		t.Error("P22.1: the space's heads are not the shade's")
	}
	if !k.Shade.Grey(38, false) || k.Space.Sweep(38, false) || !k.Space.Sweep(39, false) || table.State(39) != api.Free {
		t.Error("P22.1: the shade's colours are not the space's")
	}
	if !k.Space.Sweep(38, true) || table.State(38) != api.Free || k.Shade.Grey(38, true) {
		t.Error("P22.1: what is swept is in the shade's table still")
	}
}

// TestNumbers: each of the conf's numbers is where it must be.
func TestNumbers(t *testing.T) {
	for _, stack := range []int{1, 2, 7, 39} {
		c := fine()
		c.Stack = stack
		pileHas(t, made(t, c), stack)
	}
	for _, cache := range []int{0, 1, 5, 8} {
		c := fine()
		c.Cache = cache
		k := made(t, c)
		g := k.Space.Ask(2, 1, 0, true)
		if n := k.Space.Drain(2); n != cache || g.State != space.Granted {
			t.Errorf("P22.1: a thread keeps %d, not %d", n, cache)
		}
	}
	for _, low := range []int{0, 1, 6, 39, 40} {
		c := bare()
		c.Low = low
		wantsBelow(t, made(t, c), c)
	}
	for _, words := range []int{0, 1, 30, 2048} {
		c := fine()
		c.Spine = words
		spines := made(t, c).Space.Coil()
		_, none := spines.Take(words + 1)
		_, all := spines.Take(words)
		if none || all != (words > 0) {
			t.Errorf("P22.1: a space of %d words has %t, and %t of one more", words, all, none)
		}
	}
}

// pileHas fails the test unless there is room for most on the pile.
func pileHas(t *testing.T, k *Core, most int) {
	t.Helper()
	for i := range most + 1 {
		k.Shade.Table().Set(i, api.Used, true, false)
		if !k.Shade.Grey(i, true) || k.Shade.Lost() != (i == most) {
			t.Errorf("P22.1: a pile for %d: something is lost, or nothing, at %d", most, i)
		}
	}
	if k.Shade.Len() != most {
		t.Errorf("P22.1: %d on a pile for %d", k.Shade.Len(), most)
	}
}

// wantsBelow fails the test unless a cycle is wanted where fewer than Low are
// free.
func wantsBelow(t *testing.T, k *Core, c conf.Conf) {
	t.Helper()
	for free := c.Frags; free >= 0; free-- {
		if k.Space.Wants() != (free < c.Low) {
			t.Errorf("P22.1: with %d free, of Low %d: %t", free, c.Low, free >= c.Low)
		}
		k.Space.Ask(0, 1, 0, true)
	}
}

// TestWords: the words are read and written as any memory's, the globals too.
func TestWords(t *testing.T) {
	for _, c := range []conf.Conf{fine(), least(), greatest()} {
		k := made(t, c)
		globals := 8*c.Frags + 2*c.Spine
		for a := range globals + c.Globals {
			want := complex128(0)
			if a >= globals {
				want = nothing
			}
			w, e := k.Mem.Read(a)
			if !num.Same(w, want) || e != api.OK || k.Count() != 3*a+1 {
				t.Fatalf("P22.1: Read(%d): %v, %d, Count %d", a, w, e, k.Count())
			}
			written := k.Mem.Write(a, complex(float64(a), 1))
			w, e = k.Mem.Read(a)
			if written != api.OK || e != api.OK || !num.Same(w, complex(float64(a), 1)) || k.Count() != 3*a+3 {
				t.Fatalf("P22.1: written at %d: %d, %v, %d, Count %d", a, written, w, e, k.Count())
			}
		}
		if _, e := k.Mem.Read(globals + c.Globals); e != api.ErrRange {
			t.Errorf("P22.1: Read behind the last word: %d", e)
		}
	}
}

// call is one of what a core is made of, which of its Counts it adds one to (-1:
// to none), and how it is made with any number.
type call struct {
	name  string
	which int
	do    func(k *Core, n int)
}

func calls() []call {
	return []call{
		{"Read", 0, func(k *Core, n int) { k.Mem.Read(n) }},
		{"Write", 0, func(k *Core, n int) { k.Mem.Write(n, 5) }},
		{"Peek", -1, func(k *Core, n int) { k.Mem.Peek(n) }},
		{"Len", -1, func(k *Core, n int) { k.Mem.Len() }},
		{"Grey", 1, func(k *Core, n int) { k.Shade.Grey(n, n%2 == 0) }},
		{"Black", 1, func(k *Core, n int) { k.Shade.Black(n, true) }},
		{"Part", 1, func(k *Core, n int) { k.Shade.Part(n, n%2 == 0) }},
		{"Next", 1, func(k *Core, n int) { k.Shade.Next() }},
		{"Lost", 1, func(k *Core, n int) { k.Shade.Lost() }},
		{"shade's Len", -1, func(k *Core, n int) { k.Shade.Len() }},
		{"Table", -1, func(k *Core, n int) { k.Shade.Table().State(n) }},
		{"Ask", 2, func(k *Core, n int) { k.Space.Ask(n, 1+n%3, n%2, true) }},
		{"Born", 2, func(k *Core, n int) { k.Space.Born(n) }},
		{"Look", 2, func(k *Core, n int) { k.Space.Look(n) }},
		{"Drain", 2, func(k *Core, n int) { k.Space.Drain(n) }},
		{"Wants", 2, func(k *Core, n int) { k.Space.Wants() }},
		{"Force", 2, func(k *Core, n int) { k.Space.Force() }},
		{"Begin", 2, func(k *Core, n int) { k.Space.Begin() }},
		{"Turn", 2, func(k *Core, n int) { k.Space.Turn() }},
		{"Done", 2, func(k *Core, n int) { k.Space.Done() }},
		{"Sweep", 2, func(k *Core, n int) { k.Space.Sweep(n, n%2 == 0) }},
		{"End", 2, func(k *Core, n int) { k.Space.End() }},
		{"Serve", 2, func(k *Core, n int) { k.Space.Serve(true) }},
		{"Coil", -1, func(k *Core, n int) { k.Space.Coil().Room() }},
		{"Waits", -1, func(k *Core, n int) { k.Space.Waits() }},
		{"Free", -1, func(k *Core, n int) { k.Space.Free() }},
		{"Post", 3, func(k *Core, n int) { k.Hand.Post(n, true) }},
		{"hand's Look", 3, func(k *Core, n int) { k.Hand.Look() }},
		{"Answer", 3, func(k *Core, n int) { k.Hand.Answer(n, n) }},
		{"Poll", 3, func(k *Core, n int) { k.Hand.Poll(n) }},
		{"Join", 3, func(k *Core, n int) { k.Hand.Join(n) }},
		{"Leave", 3, func(k *Core, n int) { k.Hand.Leave(n) }},
		{"Status", -1, func(k *Core, n int) { k.Hand.Status(n) }},
	}
}

// countsAs makes one call, and fails the test unless Count goes on as it must.
func countsAs(t *testing.T, k *Core, one call, n int) {
	t.Helper()
	want := countsOf(k)
	if one.which >= 0 {
		want[one.which]++
	}
	one.do(k, n)
	if got := countsOf(k); got != want || k.Count() != want[0]+want[1]+want[2]+want[3] {
		t.Fatalf("P22.1: %s of %d: Count is %d, of %v, not of %v", one.name, n, k.Count(), got, want)
	}
}

// TestCount: each call of each counts one by itself, and of numbers that are
// none, too.
func TestCount(t *testing.T) {
	for _, one := range calls() {
		k := made(t, fine())
		for _, n := range append(far(), 0, 1, 2, 3, 4, 5, 39, 40, 382, 383) {
			countsAs(t, k, one, n)
		}
	}
}

// scattered answers a function that tells numbers of any bits, the same ones in
// every run.
func scattered() func() uint64 {
	state := uint64(22)
	return func() uint64 {
		state += 0x9E3779B97F4A7C15
		z := (state ^ state>>30) * 0xBF58476D1CE4E5B9
		z = (z ^ z>>27) * 0x94D049BB133111EB
		return z ^ z>>31
	}
}

func TestLongRun(t *testing.T) {
	next, all := scattered(), calls()
	for _, c := range []conf.Conf{fine(), least(), greatest()} {
		k, asked := made(t, c), 0
		for range 20000 {
			one, n := all[next()%uint64(len(all))], int(next()%48)-4
			countsAs(t, k, one, n)
			if one.which >= 0 {
				asked++
			}
			if k.Count() != asked {
				t.Fatalf("P22.1: Count is %d behind %d calls", k.Count(), asked)
			}
		}
	}
}

// TestCoresStandApart: whatever is done with one, another one of the same Conf
// stands as at first, made ahead of it or behind it.
func TestCoresStandApart(t *testing.T) {
	c := fine()
	ahead, k := made(t, c), made(t, c)
	for _, one := range calls() {
		for n := range 8 {
			one.do(k, n)
		}
	}
	k.Shade.Table().Set(9, api.Used, true, true)
	k.Space.Coil().Take(3)
	if k.Count() != 8*25 {
		t.Errorf("P22.1: Count is %d", k.Count())
	}
	asAtFirst(t, "one made ahead", ahead, c)
	asAtFirst(t, "one made behind", made(t, c), c)
}
