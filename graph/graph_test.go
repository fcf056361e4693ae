package graph

import (
	"math"
	"reflect"
	"slices"
	"testing"

	"spolia/api"
	"spolia/conf"
	"spolia/op"
	"spolia/shape"
)

// node is one that was made, written another way: all its cells stand in it,
// and what is a reference points to what it refers to.
type node struct {
	id, kind int
	array    bool
	refs     []bool // of each cell
	cells    []cell
}

// cell is a local, a global, a field or an element: a reference to a node or to
// nil, or a number.
type cell struct {
	ref bool
	to  *node
	z   complex128
}

// model is what a graph must be.
type model struct {
	c       conf.Conf
	nodes   []*node
	locals  [][]cell // nil of who is not there
	globals []cell
}

func modelOf(c conf.Conf) *model {
	m := &model{c: c, locals: make([][]cell, c.Threads), globals: make([]cell, c.Globals)}
	for n := range m.globals {
		m.globals[n].ref = true
	}
	return m
}

// value is what the graph must tell of a cell.
func (c cell) value() op.Value {
	switch {
	case !c.ref:
		return op.Value{Z: c.z}
	case c.to == nil:
		return op.Value{Ref: true, Z: complex(0, 1)}
	}
	return op.Value{Ref: true, Z: complex(float64(c.to.id+1), 1)}
}

func values(l []cell) []op.Value {
	var all []op.Value
	for _, c := range l {
		all = append(all, c.value())
	}
	return all
}

func (m *model) join(t int) bool {
	if t < 0 || t >= len(m.locals) || m.locals[t] != nil {
		return false
	}
	m.locals[t] = make([]cell, m.c.Locals)
	return true
}

// do says first what o does to which cell, and then, if nothing is wrong, does it.
func (m *model) do(t int, o op.Op, full bool) (op.Value, api.Errno) {
	if t < 0 || t >= len(m.locals) || m.locals[t] == nil {
		return op.Value{}, api.ErrState
	}
	if e := op.Check(m.c, o); e != api.OK {
		return op.Value{}, e
	}
	l := m.locals[t]
	switch o.Kind {
	case op.Collect:
		return op.Value{}, api.OK
	case op.Leave:
		m.locals[t] = nil
		return op.Value{}, api.OK
	case op.Set:
		if !l[o.B].ref {
			return op.Value{}, api.ErrKind
		}
		m.globals[o.N] = l[o.B]
		return op.Value{}, api.OK
	case op.Store, op.Put:
		to, e := m.cell(l[o.A], o.N, o.Kind == op.Put)
		if e == api.OK && to.ref != l[o.B].ref {
			e = api.ErrKind
		}
		if e == api.OK {
			*to = l[o.B]
		}
		return op.Value{}, e
	}
	c, e := m.gives(l, o, full)
	if e != api.OK {
		return op.Value{}, e
	}
	l[o.A] = c
	return c.value(), api.OK
}

// cell is the field, or the element, n of what c refers to.
func (m *model) cell(c cell, n int, element bool) (*cell, api.Errno) {
	switch {
	case !c.ref:
		return nil, api.ErrKind
	case c.to == nil:
		return nil, api.ErrNone
	case c.to.array != element:
		return nil, api.ErrKind
	case n < 0 || n >= len(c.to.cells):
		return nil, api.ErrIndex
	}
	return &c.to.cells[n], api.OK
}

// gives is what o puts into A.
func (m *model) gives(l []cell, o op.Op, full bool) (cell, api.Errno) {
	switch o.Kind {
	case op.New, op.Array:
		if full {
			return cell{}, api.ErrMemory
		}
		return cell{ref: true, to: m.make(o)}, api.OK
	case op.Load, op.Get:
		from, e := m.cell(l[o.B], o.N, o.Kind == op.Get)
		if e != api.OK {
			return cell{}, e
		}
		return *from, api.OK
	case op.Look:
		return m.globals[o.N], api.OK
	case op.Same_:
		return m.same(l[o.B], l[o.C])
	case op.Length, op.Kind_:
		return m.told(l[o.B], o.Kind == op.Length)
	case op.Number:
		return cell{z: o.Z}, api.OK
	case op.Clear:
		return cell{ref: true}, api.OK
	case op.Copy:
		return l[o.B], api.OK
	}
	return m.worked(l[o.B], l[o.C], o.Kind == op.Add)
}

func (m *model) same(a, b cell) (cell, api.Errno) {
	if !a.ref || !b.ref {
		return cell{}, api.ErrKind
	}
	if a.to == b.to {
		return cell{z: 1}, api.OK
	}
	return cell{}, api.OK
}

// told is the length, or the kind, of what c refers to.
func (m *model) told(c cell, length bool) (cell, api.Errno) {
	switch {
	case !c.ref:
		return cell{}, api.ErrKind
	case c.to == nil:
		return cell{}, api.ErrNone
	case !length:
		return cell{z: complex(float64(c.to.kind), 0)}, api.OK
	case !c.to.array:
		return cell{}, api.ErrKind
	}
	return cell{z: complex(float64(len(c.to.cells)), 0)}, api.OK
}

// worked is the sum, or the product, each product rounded by itself.
func (m *model) worked(a, b cell, sum bool) (cell, api.Errno) {
	if a.ref || b.ref {
		return cell{}, api.ErrKind
	}
	p, q, r, s := real(a.z), imag(a.z), real(b.z), imag(b.z)
	if sum {
		return cell{z: complex(p+r, q+s)}, api.OK
	}
	return cell{z: complex(float64(p*r)-float64(q*s), float64(p*s)+float64(q*r))}, api.OK
}

func (m *model) make(o op.Op) *node {
	s := m.c.Shapes[o.B]
	x := &node{id: len(m.nodes), kind: o.B, array: s.Array, refs: s.Refs}
	if s.Array {
		x.refs = slices.Repeat(s.Refs, o.N)
	}
	for _, ref := range x.refs {
		x.cells = append(x.cells, cell{ref: ref})
	}
	m.nodes = append(m.nodes, x)
	return x
}

// reach walks from each cell, and tells what it met, in the order in which they
// were made.
func (m *model) reach() []int {
	met := map[*node]bool{}
	var walk func(l []cell)
	walk = func(l []cell) {
		for _, c := range l {
			if c.to != nil && !met[c.to] {
				met[c.to] = true
				walk(c.to.cells)
			}
		}
	}
	for _, l := range m.locals {
		walk(l)
	}
	walk(m.globals)
	var ids []int
	for _, x := range m.nodes {
		if met[x] {
			ids = append(ids, x.id)
		}
	}
	return ids
}

// size counts the fragments by filling them up.
func (m *model) size(id int) (int, int) {
	if id < 0 || id >= len(m.nodes) {
		return 0, 0
	}
	x := m.nodes[id]
	frags, room, more := 1, 6, 7
	if x.array {
		room, more = 0, 8
	}
	for ; room < len(x.cells); room += more {
		frags++
	}
	if x.array && frags > 5 {
		return frags, frags + 1
	}
	return frags, 0
}

func (m *model) live() (int, int) {
	frags, spines := 0, 0
	for _, id := range m.reach() {
		f, s := m.size(id)
		frags += f
		spines += s
	}
	return frags, spines
}

// The kinds of fine.
const (
	pair    = 0 // a reference and a number
	list    = 1 // an array of references
	row     = 2 // an array of numbers
	mixed   = 3 // nine fields, references but for each third
	nothing = 4 // no fields
)

func fine() conf.Conf {
	nine := make([]bool, 9)
	for k := range nine {
		nine[k] = k%3 != 2
	}
	return conf.Conf{
		Frags: 100, Spine: 100, Globals: 3, Threads: 3, Locals: 5, Cache: 2, Stack: 4, Low: 1,
		Shapes: []shape.Shape{
			{Refs: []bool{true, false}}, {Array: true, Refs: []bool{true}}, {Array: true, Refs: []bool{false}}, {Refs: nine}, {},
		},
	}
}

// far lists numbers that are nowhere, some of which would wrap to what is.
func far() []int {
	return []int{
		-1, -2, -9, -256, math.MinInt32, -1 << 32, 1 - 1<<32, math.MinInt, math.MinInt + 1,
		1024, 1 << 16, math.MaxInt32, 1 << 32, 1<<32 + 1, 1 << 40, 1 << 61, 1 << 62, math.MaxInt - 1, math.MaxInt,
	}
}

// oddWords lists numbers of all sorts, those that look as references and heads
// among them.
func oddWords() []complex128 {
	floats := []float64{
		0, 1, 2, 3, -1, 0.5, 5e-324, math.Pi, 1 << 53, math.MaxFloat64, math.Inf(1), math.Inf(-1), math.Copysign(0, -1), math.NaN(),
	}
	var l []complex128
	for _, x := range floats {
		for _, y := range floats {
			l = append(l, complex(x, y))
		}
	}
	return l
}

// alike tells by the bits whether two floats are one, all NaNs being one.
func alike(x, y float64) bool {
	return math.Float64bits(x) == math.Float64bits(y) || x != x && y != y
}

func same(v, w op.Value) bool {
	return v.Ref == w.Ref && alike(real(v.Z), real(w.Z)) && alike(imag(v.Z), imag(w.Z))
}

func sameAll(l, m []op.Value) bool { return slices.EqualFunc(l, m, same) }

func ref(id int) op.Value { return op.Value{Ref: true, Z: complex(float64(id+1), 1)} }

func empty() op.Value { return op.Value{Ref: true, Z: 1i} }

func plain(z complex128) op.Value { return op.Value{Z: z} }

// scattered answers a function that tells numbers of any bits, the same ones in
// every run.
func scattered() func() uint64 {
	state := uint64(20)
	return func() uint64 {
		state += 0x9E3779B97F4A7C15
		z := (state ^ state>>30) * 0xBF58476D1CE4E5B9
		z = (z ^ z>>27) * 0x94D049BB133111EB
		return z ^ z>>31
	}
}

// made is a graph of c, which may be, with its model and these threads.
func made(t *testing.T, c conf.Conf, threads ...int) (*Graph, *model) {
	t.Helper()
	g, e := New(c)
	if g == nil || e != api.OK {
		t.Fatalf("P20.1: New: a graph: %t, %d", g != nil, e)
	}
	m := modelOf(c)
	for _, p := range threads {
		joinIs(t, g, m, p)
	}
	return g, m
}

func joinIs(t *testing.T, g *Graph, m *model, p int) bool {
	t.Helper()
	got, want := g.Join(p), m.join(p)
	if got != want {
		t.Fatalf("P20.1: Join(%d) is %t", p, got)
	}
	return got
}

// doIs does o in both, and fails the test unless both answer the same and stand
// alike.
func doIs(t *testing.T, g *Graph, m *model, p int, o op.Op, full bool) (op.Value, api.Errno) {
	t.Helper()
	v, e := g.Do(p, o, full)
	want, errno := m.do(p, o, full)
	if e != errno || !same(v, want) {
		t.Fatalf("P20.1, P20.2: thread %d, %+v, full %t: %v, %d, not %v, %d", p, o, full, v, e, want, errno)
	}
	localsAre(t, g, m)
	return v, e
}

// localsAre fails the test unless the locals and globals are the model's.
func localsAre(t *testing.T, g *Graph, m *model) {
	t.Helper()
	for p := -1; p <= len(m.locals); p++ {
		var want []op.Value
		if p >= 0 && p < len(m.locals) {
			want = values(m.locals[p])
		}
		if got := g.Locals(p); !sameAll(got, want) {
			t.Fatalf("P20.3: Locals(%d) are %v, not %v", p, got, want)
		}
	}
	if got := g.Globals(); !sameAll(got, values(m.globals)) {
		t.Fatalf("P20.3: Globals are %v, not %v", got, values(m.globals))
	}
	if g.Len() != len(m.nodes) {
		t.Fatalf("P20.3: Len is %d, not %d", g.Len(), len(m.nodes))
	}
}

// standsAs fails the test unless all that can be asked is as the model says,
// asked twice, since asking changes nothing.
func standsAs(t *testing.T, g *Graph, m *model) {
	t.Helper()
	for range 2 {
		localsAre(t, g, m)
		if got, want := g.Reach(), m.reach(); !slices.Equal(got, want) {
			t.Fatalf("P20.3: Reach is %v, not %v", got, want)
		}
		frags, spines := g.Live()
		if f, s := m.live(); frags != f || spines != s {
			t.Fatalf("P20.3: Live is %d, %d, not %d, %d", frags, spines, f, s)
		}
		for id := -1; id <= g.Len(); id++ {
			frags, spine := g.Size(id)
			if f, s := m.size(id); frags != f || spine != s {
				t.Fatalf("P20.3: Size(%d) is %d, %d, not %d, %d", id, frags, spine, f, s)
			}
		}
	}
}

// doing does what must answer v.
func doing(t *testing.T, g *Graph, m *model, p int, o op.Op, v op.Value) {
	t.Helper()
	if got, e := doIs(t, g, m, p, o, false); e != api.OK || !same(got, v) {
		t.Fatalf("P20.2: thread %d, %+v: %v, %d, not %v", p, o, got, e, v)
	}
}

// refused does what must answer e, and fails the test if it changed anything.
func refused(t *testing.T, g *Graph, m *model, p int, o op.Op, full bool, e api.Errno) {
	t.Helper()
	if v, got := doIs(t, g, m, p, o, full); got != e || v.Ref || v.Z != 0 {
		t.Fatalf("P20.1: thread %d, %+v, full %t: %v, %d, not %d", p, o, full, v, got, e)
	}
	standsAs(t, g, m)
	cellsAre(t, g, m)
}

// cellsAre fails the test unless each field and each element, of what the locals
// of the thread 0 refer to, is what the model has.
func cellsAre(t *testing.T, g *Graph, m *model) {
	t.Helper()
	for _, v := range values(m.locals[0]) {
		if !v.Ref || v.Z == 1i {
			continue
		}
		x := m.nodes[int(real(v.Z))-1]
		for k, c := range x.cells {
			if got := g.read(g.thing(v), k); !same(got, c.value()) {
				t.Fatalf("P20.2: %d of %d is %v, not %v", k, x.id, got, c.value())
			}
		}
	}
}

func TestLimits(t *testing.T) {
	if api.MaxThreads != 16 || api.MaxLocals != 8 || api.MaxGlobals != 8 || api.MaxLength != 512 || api.MaxFields != 40 || api.Inline != 4 || api.FragWords != 8 {
		t.Fatal("the tests of chapter 20 are written for other limits")
	}
}

// TestCalls: a graph has the calls that the chapter lists and no other one.
func TestCalls(t *testing.T) {
	var got []string
	for m := range reflect.TypeFor[*Graph]().Methods() {
		got = append(got, m.Name)
	}
	want := []string{"Do", "Globals", "Join", "Len", "Live", "Locals", "Reach", "Size"}
	if !slices.Equal(got, want) {
		t.Errorf("P20.1: the calls are %v", got)
	}
}

func TestExample(t *testing.T) {
	g, m := made(t, fine(), 0)
	doing(t, g, m, 0, op.Op{Kind: op.New, A: 0, B: pair}, ref(0))
	doing(t, g, m, 0, op.Op{Kind: op.Clear, A: 0}, empty())
	if frags, spines := g.Live(); frags != 0 || spines != 0 {
		t.Errorf("P20.3: Live is %d, %d", frags, spines)
	}
}

func TestNewOfConf(t *testing.T) {
	for i, spoil := range []func(c *conf.Conf){
		func(c *conf.Conf) { c.Frags = 3 },
		func(c *conf.Conf) { c.Frags = 1025 },
		func(c *conf.Conf) { c.Spine = -1 },
		func(c *conf.Conf) { c.Globals = 9 },
		func(c *conf.Conf) { c.Threads = 0 },
		func(c *conf.Conf) { c.Threads = math.MaxInt },
		func(c *conf.Conf) { c.Locals = 9 },
		func(c *conf.Conf) { c.Stack = 0 },
		func(c *conf.Conf) { c.Low = 101 },
		func(c *conf.Conf) { c.Shapes, c.Locals = nil, 0 },
		func(c *conf.Conf) { c.Threads, c.Cache, c.Frags = 16, 8, 127 },
		func(c *conf.Conf) { c.Shapes = nil },
		func(c *conf.Conf) { c.Shapes = []shape.Shape{{Array: true}} },
		func(c *conf.Conf) { c.Shapes = []shape.Shape{{Refs: make([]bool, 41)}} },
		func(c *conf.Conf) { c.Shapes = slices.Repeat(c.Shapes, 2) },
	} {
		c := fine()
		spoil(&c)
		want := api.ErrRange
		if i > 10 {
			want = api.ErrKind
		}
		if g, e := New(c); g != nil || e != want || e != conf.Check(c) {
			t.Errorf("P20.1: New of conf %d: a graph: %t, %d", i, g != nil, e)
		}
	}
	if g, e := New(conf.Conf{}); g != nil || e != api.ErrRange {
		t.Errorf("P20.1: New of no conf: %d", e)
	}
}

// TestNewOfEachSize: each number of threads, locals and globals that may be.
func TestNewOfEachSize(t *testing.T) {
	for threads := 1; threads <= 16; threads++ {
		for locals := 1; locals <= 8; locals++ {
			for globals := 0; globals <= 8; globals++ {
				c := fine()
				c.Threads, c.Locals, c.Globals = threads, locals, globals
				g, m := made(t, c)
				standsAs(t, g, m)
				joinIs(t, g, m, threads-1)
				standsAs(t, g, m)
				if len(g.Locals(threads-1)) != locals || len(g.Globals()) != globals {
					t.Fatalf("P20.3: %d locals, %d globals", locals, globals)
				}
			}
		}
	}
}

func TestBeginning(t *testing.T) {
	g, m := made(t, fine(), 1)
	if g.Len() != 0 || len(g.Reach()) != 0 || len(g.Locals(0)) != 0 {
		t.Error("P20.1: something is there")
	}
	for _, v := range g.Locals(1) {
		if !same(v, plain(0)) {
			t.Errorf("P20.1: a local is %v", v)
		}
	}
	for _, v := range g.Globals() {
		if !same(v, empty()) {
			t.Errorf("P20.1: a global is %v", v)
		}
	}
	standsAs(t, g, m)
}

// TestJoin: each thread may join once, and anew when it left; its locals are then
// as at first.
func TestJoin(t *testing.T) {
	c := fine()
	c.Threads = 16
	g, m := made(t, c)
	for p := range 16 {
		if !joinIs(t, g, m, p) || joinIs(t, g, m, p) {
			t.Fatalf("P20.1: Join(%d)", p)
		}
		doing(t, g, m, p, op.Op{Kind: op.New, A: 1}, ref(p))
		if joinIs(t, g, m, p) {
			t.Fatalf("P20.1: Join(%d) of who is there", p)
		}
		standsAs(t, g, m)
	}
	for p := range 16 {
		doing(t, g, m, p, op.Op{Kind: op.Leave}, op.Value{})
		standsAs(t, g, m)
		if len(g.Locals(p)) != 0 || !joinIs(t, g, m, p) || !same(g.Locals(p)[1], plain(0)) {
			t.Fatalf("P20.1, P20.2: thread %d left and joined anew", p)
		}
		standsAs(t, g, m)
	}
}

func TestNoThread(t *testing.T) {
	for _, threads := range []int{1, 2, 15, 16} {
		c := fine()
		c.Threads = threads
		g, m := made(t, c, 0)
		for _, p := range append(far(), threads, threads+1, 16, 17, 256, 257) {
			if p == 0 || 0 < p && p < threads {
				continue
			}
			if joinIs(t, g, m, p) || len(g.Locals(p)) != 0 {
				t.Fatalf("P20.1: thread %d of %d", p, threads)
			}
			refused(t, g, m, p, op.Op{Kind: op.Clear}, false, api.ErrState)
		}
	}
}

// TestNotThere: ErrState goes ahead of all that may be wrong with an operation.
func TestNotThere(t *testing.T) {
	g, m := made(t, fine(), 0, 1)
	doing(t, g, m, 1, op.Op{Kind: op.New}, ref(0))
	doing(t, g, m, 1, op.Op{Kind: op.Leave}, op.Value{})
	for kind := -1; kind <= 20; kind++ {
		for _, n := range []int{-1, 0, 1, 9} {
			for _, full := range []bool{false, true} {
				refused(t, g, m, 1, op.Op{Kind: kind, A: n, B: n, C: n, N: n}, full, api.ErrState)
				refused(t, g, m, 2, op.Op{Kind: kind, A: n, B: n, C: n, N: n}, full, api.ErrState)
			}
		}
	}
}

// laden is a graph whose thread 0 has of all there is: 0 a number, 1 nothing, 2
// a pair, 3 a list of nine, 4 a row of nine. The fields and elements are set, but
// for the list's last one.
func laden(t *testing.T) (*Graph, *model) {
	t.Helper()
	g, m := made(t, fine(), 0, 1)
	for _, o := range []op.Op{
		{Kind: op.Number, A: 0, Z: 2 + 1i},
		{Kind: op.Clear, A: 1},
		{Kind: op.New, A: 2, B: pair},
		{Kind: op.Array, A: 3, B: list, N: 9},
		{Kind: op.Array, A: 4, B: row, N: 9},
		{Kind: op.Store, A: 2, N: 0, B: 3},
		{Kind: op.Store, A: 2, N: 1, B: 0},
		{Kind: op.Put, A: 3, N: 0, B: 2},
		{Kind: op.Put, A: 4, N: 8, B: 0},
		{Kind: op.Set, N: 1, B: 4},
	} {
		if _, e := doIs(t, g, m, 0, o, false); e != api.OK {
			t.Fatalf("P20.2: %+v: %d", o, e)
		}
	}
	standsAs(t, g, m)
	return g, m
}

// TestEachOperand does each operation with each sort of what it names, and with
// numbers at and past all ends: the errors stand written out here.
func TestEachOperand(t *testing.T) {
	g, m := laden(t)
	numbers := append([]int{0, 1, 2, 8, 9}, far()...)
	for _, n := range numbers {
		for a := range 5 {
			for _, full := range []bool{false, true} {
				isObject, isArray := a == 2, a > 2
				e := api.ErrKind // a number
				if a == 1 {
					e = api.ErrNone
				}
				field, element, length := e, e, e
				if isObject {
					field, element, length = index(n, 2), api.ErrKind, api.ErrKind
				} else if isArray {
					field, element, length, e = api.ErrKind, index(n, 9), api.OK, api.OK
				}
				if isObject {
					e = api.OK
				}
				asks(t, g, m, op.Op{Kind: op.Load, A: 0, B: a, N: n}, full, field)
				asks(t, g, m, op.Op{Kind: op.Get, A: 0, B: a, N: n}, full, element)
				asks(t, g, m, op.Op{Kind: op.Length, A: 0, B: a, N: n}, full, length)
				asks(t, g, m, op.Op{Kind: op.Kind_, A: 0, B: a, N: n}, full, e)
				for b := range 5 {
					asks(t, g, m, op.Op{Kind: op.Store, A: a, B: b, N: n}, full, held(field, b > 0, n == 0))
					asks(t, g, m, op.Op{Kind: op.Put, A: a, B: b, N: n}, full, held(element, b > 0, a == 3))
				}
			}
		}
	}
}

// index is what is answered of the place n of so many.
func index(n, count int) api.Errno {
	if n < 0 || n >= count {
		return api.ErrIndex
	}
	return api.OK
}

// held is e, or, if that is OK, what is answered of what is stored.
func held(e api.Errno, isRef, mustBe bool) api.Errno {
	if e == api.OK && isRef != mustBe {
		return api.ErrKind
	}
	return e
}

// asks does o on a laden graph, fails the test unless it answers e, and makes it
// as it was, if it was changed.
func asks(t *testing.T, g *Graph, m *model, o op.Op, full bool, e api.Errno) {
	t.Helper()
	if e != api.OK {
		refused(t, g, m, 0, o, full, e)
		return
	}
	if v, got := doIs(t, g, m, 0, o, full); got != e {
		t.Fatalf("P20.1: %+v: %v, %d", o, v, got)
	}
	standsAs(t, g, m)
	cellsAre(t, g, m)
	doIs(t, g, m, 0, op.Op{Kind: op.Number, A: 0, Z: 2 + 1i}, false)
}

// TestTwoOperands: of Same_, Add and Mul both must be of the kind that is asked
// for, and Same_ and Set take what refers to nothing.
func TestTwoOperands(t *testing.T) {
	g, m := laden(t)
	for b := range 5 {
		for c := range 5 {
			for _, full := range []bool{false, true} {
				e := api.OK
				if b == 0 || c == 0 {
					e = api.ErrKind
				}
				asks(t, g, m, op.Op{Kind: op.Same_, A: 0, B: b, C: c}, full, e)
				e = api.OK
				if b > 0 || c > 0 {
					e = api.ErrKind
				}
				asks(t, g, m, op.Op{Kind: op.Add, A: 0, B: b, C: c}, full, e)
				asks(t, g, m, op.Op{Kind: op.Mul, A: 0, B: b, C: c}, full, e)
			}
		}
	}
	for b := range 5 {
		for n := range 3 {
			asks(t, g, m, op.Op{Kind: op.Set, N: n, B: b}, b%2 == 0, held(api.OK, b > 0, true))
		}
	}
}

// TestCheckFirst: what op.Check tells goes ahead of what is wrong with the
// locals, and ahead of full.
func TestCheckFirst(t *testing.T) {
	g, m := laden(t)
	for _, full := range []bool{false, true} {
		refused(t, g, m, 0, op.Op{Kind: 0}, full, api.ErrRange)
		refused(t, g, m, 0, op.Op{Kind: 19}, full, api.ErrRange)
		refused(t, g, m, 0, op.Op{Kind: op.Load, A: 5, B: 1, N: 0}, full, api.ErrRange)
		refused(t, g, m, 0, op.Op{Kind: op.Load, A: -1, B: 0, N: 9}, full, api.ErrRange)
		refused(t, g, m, 0, op.Op{Kind: op.Get, A: 0, B: 5, N: -1}, full, api.ErrRange)
		refused(t, g, m, 0, op.Op{Kind: op.Store, A: 1, B: 5, N: 9}, full, api.ErrRange)
		refused(t, g, m, 0, op.Op{Kind: op.Add, A: 0, B: 1, C: 5}, full, api.ErrRange)
		refused(t, g, m, 0, op.Op{Kind: op.Same_, A: 5, B: 0, C: 0}, full, api.ErrRange)
		refused(t, g, m, 0, op.Op{Kind: op.Set, N: 3, B: 0}, full, api.ErrRange)
		refused(t, g, m, 0, op.Op{Kind: op.Look, N: -1}, full, api.ErrRange)
		refused(t, g, m, 0, op.Op{Kind: op.New, B: list}, full, api.ErrKind)
		refused(t, g, m, 0, op.Op{Kind: op.New, B: 5}, full, api.ErrKind)
		refused(t, g, m, 0, op.Op{Kind: op.Array, B: pair, N: -1}, full, api.ErrKind)
		refused(t, g, m, 0, op.Op{Kind: op.Array, B: list, N: 513}, full, api.ErrIndex)
		refused(t, g, m, 0, op.Op{Kind: op.Array, B: list, N: -1}, full, api.ErrIndex)
	}
	c := fine()
	c.Frags = 6
	small, ofSmall := made(t, c, 0)
	for _, full := range []bool{false, true} {
		refused(t, small, ofSmall, 0, op.Op{Kind: op.Array, B: list, N: 41}, full, api.ErrLarge)
	}
}

// TestFull: it says something of New and Array alone.
func TestFull(t *testing.T) {
	for kind := op.New; kind <= op.Leave; kind++ {
		g, m := laden(t)
		o := op.Op{Kind: kind, A: 0, B: 2, C: 3, N: 0, Z: 5}
		switch kind {
		case op.New:
			o.B = mixed
		case op.Array, op.Put:
			o.A, o.B = 3, 2
		case op.Store:
			o.A, o.B = 2, 3
		case op.Get, op.Length:
			o.B = 3
		case op.Add, op.Mul:
			o.B, o.C = 0, 0
		}
		if kind == op.New || kind == op.Array {
			refused(t, g, m, 0, o, true, api.ErrMemory)
			if v, e := doIs(t, g, m, 0, o, false); e != api.OK || !same(v, ref(3)) {
				t.Fatalf("P20.2: %+v: %v, %d", o, v, e)
			}
			continue
		}
		if _, e := doIs(t, g, m, 0, o, true); e != api.OK {
			t.Fatalf("P20.1: full, %+v: %d", o, e)
		}
		standsAs(t, g, m)
	}
}

// TestNothingIsStored: a reference to nothing may be stored, into fields and
// elements that are references alone, and is what Set and Same_ take.
func TestNothingIsStored(t *testing.T) {
	g, m := laden(t)
	doing(t, g, m, 0, op.Op{Kind: op.Store, A: 2, N: 0, B: 1}, op.Value{})
	doing(t, g, m, 0, op.Op{Kind: op.Load, A: 0, B: 2, N: 0}, empty())
	doing(t, g, m, 0, op.Op{Kind: op.Put, A: 3, N: 0, B: 1}, op.Value{})
	doing(t, g, m, 0, op.Op{Kind: op.Get, A: 0, B: 3, N: 0}, empty())
	refused(t, g, m, 0, op.Op{Kind: op.Store, A: 2, N: 1, B: 1}, false, api.ErrKind)
	refused(t, g, m, 0, op.Op{Kind: op.Put, A: 4, N: 0, B: 1}, false, api.ErrKind)
	doing(t, g, m, 0, op.Op{Kind: op.Set, N: 1, B: 1}, op.Value{})
	doing(t, g, m, 0, op.Op{Kind: op.Look, A: 0, N: 1}, empty())
	doing(t, g, m, 0, op.Op{Kind: op.Same_, A: 0, B: 1, C: 1}, plain(1))
	doing(t, g, m, 0, op.Op{Kind: op.Same_, A: 0, B: 1, C: 2}, plain(0))
	standsAs(t, g, m)
}

// TestObjects: the fields of objects of each number of fields are at first as their
// kinds are; N says nothing of them.
func TestObjects(t *testing.T) {
	for fields := 0; fields <= 40; fields++ {
		for pattern := range 4 {
			refs := make([]bool, fields)
			for k := range refs {
				refs[k] = pattern == 1 || pattern > 1 && k%pattern == 0
			}
			c := fine()
			c.Shapes = []shape.Shape{{}, {Refs: refs}}
			g, m := made(t, c, 0)
			doing(t, g, m, 0, op.Op{Kind: op.New, A: 1, B: 1, N: 3}, ref(0))
			for k, isRef := range refs {
				want := plain(0)
				if isRef {
					want = empty()
				}
				doing(t, g, m, 0, op.Op{Kind: op.Load, A: 2, B: 1, N: k}, want)
			}
			doing(t, g, m, 0, op.Op{Kind: op.Kind_, A: 2, B: 1}, plain(1))
			refused(t, g, m, 0, op.Op{Kind: op.Load, A: 2, B: 1, N: fields}, false, api.ErrIndex)
			standsAs(t, g, m)
		}
	}
}

// TestArrays: the same of elements, of each length.
func TestArrays(t *testing.T) {
	for n := 0; n <= 512; n++ {
		g, m := made(t, fine(), 0)
		for _, kind := range []int{list, row} {
			want := empty()
			if kind == row {
				want = plain(0)
			}
			doing(t, g, m, 0, op.Op{Kind: op.Array, A: 1, B: kind, N: n}, ref(kind-1))
			for _, k := range []int{0, 1, 7, 8, 9, n / 2, n - 1} {
				if 0 <= k && k < n {
					doing(t, g, m, 0, op.Op{Kind: op.Get, A: 2, B: 1, N: k}, want)
				}
			}
			doing(t, g, m, 0, op.Op{Kind: op.Length, A: 2, B: 1}, plain(complex(float64(n), 0)))
			doing(t, g, m, 0, op.Op{Kind: op.Kind_, A: 2, B: 1}, plain(complex(float64(kind), 0)))
			refused(t, g, m, 0, op.Op{Kind: op.Get, A: 2, B: 1, N: n}, false, api.ErrIndex)
		}
	}
}

// TestEachPlace stores something else into each place, and then loads them all.
func TestEachPlace(t *testing.T) {
	c := fine()
	c.Shapes[pair].Refs = make([]bool, 40)
	g, m := made(t, c, 0)
	doing(t, g, m, 0, op.Op{Kind: op.New, A: 1, B: pair}, ref(0))
	doing(t, g, m, 0, op.Op{Kind: op.Array, A: 2, B: row, N: 512}, ref(1))
	for round := range 2 {
		for k := range 512 {
			doing(t, g, m, 0, op.Op{Kind: op.Number, A: 3, Z: complex(float64(k), float64(round))}, plain(complex(float64(k), float64(round))))
			doing(t, g, m, 0, op.Op{Kind: op.Put, A: 2, B: 3, N: k}, op.Value{})
			if k < 40 {
				doing(t, g, m, 0, op.Op{Kind: op.Store, A: 1, B: 3, N: k}, op.Value{})
			}
		}
		for k := range 512 {
			doing(t, g, m, 0, op.Op{Kind: op.Get, A: 3, B: 2, N: k}, plain(complex(float64(k), float64(round))))
			if k < 40 {
				doing(t, g, m, 0, op.Op{Kind: op.Load, A: 3, B: 1, N: k}, plain(complex(float64(k), float64(round))))
			}
		}
	}
}

// TestNumbers: each number is held bit by bit, wherever it stands, and one that
// looks as a reference is none.
func TestNumbers(t *testing.T) {
	g, m := made(t, fine(), 0)
	doing(t, g, m, 0, op.Op{Kind: op.New, A: 0, B: pair}, ref(0))
	doing(t, g, m, 0, op.Op{Kind: op.Array, A: 1, B: row, N: 9}, ref(1))
	doing(t, g, m, 0, op.Op{Kind: op.Set, N: 0, B: 0}, op.Value{})
	doing(t, g, m, 0, op.Op{Kind: op.Set, N: 1, B: 1}, op.Value{})
	for _, z := range oddWords() {
		doing(t, g, m, 0, op.Op{Kind: op.Number, A: 2, Z: z}, plain(z))
		doing(t, g, m, 0, op.Op{Kind: op.Store, A: 0, N: 1, B: 2}, op.Value{})
		doing(t, g, m, 0, op.Op{Kind: op.Put, A: 1, N: 8, B: 2}, op.Value{})
		refused(t, g, m, 0, op.Op{Kind: op.Store, A: 0, N: 0, B: 2}, false, api.ErrKind)
		refused(t, g, m, 0, op.Op{Kind: op.Set, N: 2, B: 2}, false, api.ErrKind)
		refused(t, g, m, 0, op.Op{Kind: op.Load, A: 3, B: 2, N: 0}, false, api.ErrKind)
		refused(t, g, m, 0, op.Op{Kind: op.Kind_, A: 3, B: 2}, false, api.ErrKind)
		refused(t, g, m, 0, op.Op{Kind: op.Same_, A: 3, B: 2, C: 2}, false, api.ErrKind)
		doing(t, g, m, 0, op.Op{Kind: op.Copy, A: 4, B: 2}, plain(z))
		doing(t, g, m, 0, op.Op{Kind: op.Clear, A: 2}, empty())
		doing(t, g, m, 0, op.Op{Kind: op.Load, A: 3, B: 0, N: 1}, plain(z))
		doing(t, g, m, 0, op.Op{Kind: op.Get, A: 3, B: 1, N: 8}, plain(z))
		standsAs(t, g, m)
	}
}

// TestSums works with all pairs of numbers, held against sums and products made
// part by part.
func TestSums(t *testing.T) {
	g, m := made(t, fine(), 0)
	for _, a := range oddWords() {
		doing(t, g, m, 0, op.Op{Kind: op.Number, A: 0, Z: a}, plain(a))
		for _, b := range oddWords() {
			doing(t, g, m, 0, op.Op{Kind: op.Number, A: 1, Z: b}, plain(b))
			for _, kind := range []int{op.Add, op.Mul} {
				v, e := g.Do(0, op.Op{Kind: kind, A: 2, B: 0, C: 1}, false)
				want, _ := m.do(0, op.Op{Kind: kind, A: 2, B: 0, C: 1}, false)
				if e != api.OK || !same(v, want) || !same(g.Locals(0)[2], want) {
					t.Fatalf("P20.2: %d of %v and %v: %v, %d, not %v", kind, a, b, v, e, want)
				}
			}
		}
	}
	doing(t, g, m, 0, op.Op{Kind: op.Number, A: 0, Z: 1 + 2i}, plain(1+2i))
	doing(t, g, m, 0, op.Op{Kind: op.Number, A: 1, Z: 3 + 4i}, plain(3+4i))
	doing(t, g, m, 0, op.Op{Kind: op.Mul, A: 2, B: 0, C: 1}, plain(-5+10i))
	doing(t, g, m, 0, op.Op{Kind: op.Add, A: 0, B: 0, C: 0}, plain(2+4i))
}

// TestOntoItself: an operation may put its answer where an operand stands, and
// one that is wrong leaves that.
func TestOntoItself(t *testing.T) {
	g, m := laden(t)
	doing(t, g, m, 0, op.Op{Kind: op.Get, A: 3, B: 3, N: 0}, ref(0))
	doing(t, g, m, 0, op.Op{Kind: op.Load, A: 3, B: 3, N: 0}, ref(1))
	doing(t, g, m, 0, op.Op{Kind: op.Put, A: 3, B: 3, N: 8}, op.Value{})
	doing(t, g, m, 0, op.Op{Kind: op.Get, A: 1, B: 3, N: 8}, ref(1))
	doing(t, g, m, 0, op.Op{Kind: op.Copy, A: 3, B: 3}, ref(1))
	doing(t, g, m, 0, op.Op{Kind: op.Length, A: 3, B: 3}, plain(9))
	doing(t, g, m, 0, op.Op{Kind: op.Kind_, A: 4, B: 4}, plain(row))
	doing(t, g, m, 0, op.Op{Kind: op.Mul, A: 0, B: 0, C: 0}, plain(3+4i))
	doing(t, g, m, 0, op.Op{Kind: op.Same_, A: 1, B: 1, C: 1}, plain(1))
	refused(t, g, m, 0, op.Op{Kind: op.Same_, A: 2, B: 2, C: 0}, false, api.ErrKind)
	standsAs(t, g, m)
}

// TestShared: what one thread stores shows to all that refer to it; locals of
// one are no other one's.
func TestShared(t *testing.T) {
	g, m := laden(t)
	doing(t, g, m, 0, op.Op{Kind: op.Set, N: 0, B: 2}, op.Value{})
	doing(t, g, m, 1, op.Op{Kind: op.Look, A: 3, N: 0}, ref(0))
	doing(t, g, m, 1, op.Op{Kind: op.Number, A: 0, Z: 7}, plain(7))
	doing(t, g, m, 1, op.Op{Kind: op.Store, A: 3, N: 1, B: 0}, op.Value{})
	doing(t, g, m, 0, op.Op{Kind: op.Load, A: 1, B: 2, N: 1}, plain(7))
	doing(t, g, m, 1, op.Op{Kind: op.Load, A: 4, B: 3, N: 0}, ref(1))
	doing(t, g, m, 0, op.Op{Kind: op.Leave}, op.Value{})
	standsAs(t, g, m)
	doing(t, g, m, 1, op.Op{Kind: op.Get, A: 4, B: 4, N: 0}, ref(0))
	doing(t, g, m, 1, op.Op{Kind: op.Same_, A: 0, B: 4, C: 3}, plain(1))
	doing(t, g, m, 1, op.Op{Kind: op.Collect}, op.Value{})
	standsAs(t, g, m)
}

// TestReach: rings, what refers to itself, and what is reached in many ways.
func TestReach(t *testing.T) {
	g, m := made(t, fine(), 0, 1, 2)
	reaches := func(frags, spines int, ids ...int) {
		t.Helper()
		standsAs(t, g, m)
		f, s := g.Live()
		if got := g.Reach(); !slices.Equal(got, ids) || f != frags || s != spines {
			t.Fatalf("P20.3: Reach is %v, Live %d, %d, not %v, %d, %d", got, f, s, ids, frags, spines)
		}
	}
	reaches(0, 0)
	for id := range 4 { // a ring of four, held by 1 alone
		doing(t, g, m, 0, op.Op{Kind: op.New, A: 1, B: pair}, ref(id))
		if id > 0 {
			doing(t, g, m, 0, op.Op{Kind: op.Store, A: 1, N: 0, B: 0}, op.Value{})
		} else {
			doing(t, g, m, 0, op.Op{Kind: op.Copy, A: 2, B: 1}, ref(0))
		}
		doing(t, g, m, 0, op.Op{Kind: op.Copy, A: 0, B: 1}, ref(id))
	}
	doing(t, g, m, 0, op.Op{Kind: op.Store, A: 2, N: 0, B: 1}, op.Value{})
	reaches(4, 0, 0, 1, 2, 3)
	doing(t, g, m, 0, op.Op{Kind: op.Clear, A: 0}, empty())
	doing(t, g, m, 0, op.Op{Kind: op.Clear, A: 1}, empty())
	reaches(4, 0, 0, 1, 2, 3)
	doing(t, g, m, 0, op.Op{Kind: op.Array, A: 3, B: list, N: 512}, ref(4))
	doing(t, g, m, 0, op.Op{Kind: op.Put, A: 3, N: 511, B: 3}, op.Value{})
	doing(t, g, m, 0, op.Op{Kind: op.Put, A: 3, N: 510, B: 2}, op.Value{})
	doing(t, g, m, 0, op.Op{Kind: op.Clear, A: 2}, empty())
	reaches(69, 66, 0, 1, 2, 3, 4)
	doing(t, g, m, 0, op.Op{Kind: op.Set, N: 2, B: 3}, op.Value{})
	doing(t, g, m, 2, op.Op{Kind: op.Look, A: 4, N: 2}, ref(4))
	doing(t, g, m, 0, op.Op{Kind: op.Leave}, op.Value{})
	reaches(69, 66, 0, 1, 2, 3, 4)
	doing(t, g, m, 1, op.Op{Kind: op.Clear}, empty())
	doing(t, g, m, 1, op.Op{Kind: op.Set, N: 2, B: 0}, op.Value{})
	reaches(69, 66, 0, 1, 2, 3, 4)
	doing(t, g, m, 2, op.Op{Kind: op.Clear, A: 0}, empty())
	doing(t, g, m, 2, op.Op{Kind: op.Put, A: 4, N: 510, B: 0}, op.Value{})
	reaches(65, 66, 4)
	doing(t, g, m, 2, op.Op{Kind: op.Number, A: 4, Z: 5 + 1i}, plain(5+1i))
	reaches(0, 0)
}

// TestLookingAsReferences: numbers that look as references keep nothing.
func TestLookingAsReferences(t *testing.T) {
	g, m := made(t, fine(), 0)
	doing(t, g, m, 0, op.Op{Kind: op.New, A: 4, B: pair}, ref(0))
	doing(t, g, m, 0, op.Op{Kind: op.Array, A: 1, B: row, N: 3}, ref(1))
	doing(t, g, m, 0, op.Op{Kind: op.New, A: 2, B: mixed}, ref(2))
	doing(t, g, m, 0, op.Op{Kind: op.Number, A: 3, Z: 1 + 1i}, plain(1+1i))
	doing(t, g, m, 0, op.Op{Kind: op.Put, A: 1, N: 2, B: 3}, op.Value{})
	doing(t, g, m, 0, op.Op{Kind: op.Store, A: 2, N: 5, B: 3}, op.Value{})
	doing(t, g, m, 0, op.Op{Kind: op.Store, A: 2, N: 8, B: 3}, op.Value{})
	if got := g.Reach(); !slices.Equal(got, []int{0, 1, 2}) {
		t.Fatalf("P20.3: Reach is %v", got)
	}
	doing(t, g, m, 0, op.Op{Kind: op.Clear, A: 4}, empty())
	if got := g.Reach(); !slices.Equal(got, []int{1, 2}) {
		t.Fatalf("P20.3: Reach is %v", got)
	}
	standsAs(t, g, m)
}

// TestEachField: what any one field that is a reference refers to is reached.
func TestEachField(t *testing.T) {
	for n := range 40 {
		c := fine()
		c.Shapes = []shape.Shape{{Refs: slices.Repeat([]bool{true}, 40)}, {Array: true, Refs: []bool{true}}}
		g, m := made(t, c, 0)
		doing(t, g, m, 0, op.Op{Kind: op.New, A: 1, B: 0}, ref(0))
		doing(t, g, m, 0, op.Op{Kind: op.Array, A: 0, B: 1, N: 512}, ref(1))
		doing(t, g, m, 0, op.Op{Kind: op.Store, A: 1, N: n, B: 0}, op.Value{})
		doing(t, g, m, 0, op.Op{Kind: op.New, A: 2, B: 0}, ref(2))
		for _, k := range []int{n, 511 - n, 100 + 8*n} {
			doing(t, g, m, 0, op.Op{Kind: op.Put, A: 0, N: k, B: 2}, op.Value{})
		}
		doing(t, g, m, 0, op.Op{Kind: op.Clear, A: 0}, empty())
		doing(t, g, m, 0, op.Op{Kind: op.Clear, A: 2}, empty())
		if got := g.Reach(); !slices.Equal(got, []int{0, 1, 2}) {
			t.Fatalf("P20.3: the field %d: Reach is %v", n, got)
		}
		standsAs(t, g, m)
	}
}

// TestEachRoot: each local of each thread, and each global, keeps what it refers
// to.
func TestEachRoot(t *testing.T) {
	c := fine()
	c.Threads, c.Locals, c.Globals = 16, 8, 8
	for p := range 16 {
		for a := range 8 {
			g, m := made(t, c, p)
			doing(t, g, m, p, op.Op{Kind: op.New, A: a, B: mixed}, ref(0))
			if got := g.Reach(); !slices.Equal(got, []int{0}) {
				t.Fatalf("P20.3: the local %d of %d: Reach is %v", a, p, got)
			}
			doing(t, g, m, p, op.Op{Kind: op.Set, N: a, B: a}, op.Value{})
			doing(t, g, m, p, op.Op{Kind: op.Leave}, op.Value{})
			if got := g.Reach(); !slices.Equal(got, []int{0}) {
				t.Fatalf("P20.3: the global %d: Reach is %v", a, got)
			}
			standsAs(t, g, m)
		}
	}
}

// TestLongChain: a chain of a hundred thousand is reached, and let go at once.
func TestLongChain(t *testing.T) {
	const many = 100000
	g, _ := made(t, fine(), 0)
	for range many {
		g.Do(0, op.Op{Kind: op.New, A: 1, B: pair}, false)
		g.Do(0, op.Op{Kind: op.Copy, A: 0, B: 1}, false)
		if v, e := g.Do(0, op.Op{Kind: op.Store, A: 1, N: 0, B: 2}, false); e != api.OK && g.Len() > 1 {
			t.Fatalf("P20.2: %v, %d", v, e)
		}
		g.Do(0, op.Op{Kind: op.Copy, A: 2, B: 1}, false)
	}
	g.Do(0, op.Op{Kind: op.Clear, A: 1}, false)
	g.Do(0, op.Op{Kind: op.Clear, A: 2}, false)
	if got := g.Reach(); len(got) != many || got[0] != 0 || got[many-1] != many-1 || !slices.IsSorted(got) {
		t.Fatalf("P20.3: %d are reached", len(got))
	}
	if frags, spines := g.Live(); frags != many || spines != 0 {
		t.Fatalf("P20.3: Live is %d, %d", frags, spines)
	}
	g.Do(0, op.Op{Kind: op.Clear, A: 0}, false)
	if got := g.Reach(); len(got) != 0 || g.Len() != many {
		t.Fatalf("P20.3: %d are reached of %d", len(got), g.Len())
	}
}

// TestManyLargeOnes: there is no memory that could be full, and long arrays of
// which nothing was set can be made without end.
func TestManyLargeOnes(t *testing.T) {
	const many = 200000
	g, _ := made(t, fine(), 0)
	for range many {
		if _, e := g.Do(0, op.Op{Kind: op.Array, A: 0, B: list, N: 512}, false); e != api.OK {
			t.Fatalf("P20.2: %d", e)
		}
	}
	if frags, spine := g.Size(many - 1); frags != 65 || spine != 66 || g.Len() != many {
		t.Fatalf("P20.3: Size is %d, %d", frags, spine)
	}
	if frags, spines := g.Live(); frags != 65 || spines != 66 {
		t.Fatalf("P20.3: Live is %d, %d", frags, spines)
	}
}

func TestSizeOfNone(t *testing.T) {
	g, _ := laden(t)
	for _, id := range append(far(), 3, 4) {
		if frags, spine := g.Size(id); frags != 0 || spine != 0 {
			t.Errorf("P20.3: Size(%d) is %d, %d", id, frags, spine)
		}
	}
}

// TestConfIsCopied: what is handed in is neither changed nor kept.
func TestConfIsCopied(t *testing.T) {
	c := fine()
	room := append(c.Shapes, shape.Shape{Array: true, Refs: []bool{true}})
	c.Shapes = room[:5]
	was := conf.Copy(c)
	g, m := made(t, c, 0)
	m.c = was
	doing(t, g, m, 0, op.Op{Kind: op.New, A: 0, B: pair}, ref(0))
	if !reflect.DeepEqual(conf.Copy(c), was) || len(room[5].Refs) != 1 {
		t.Fatal("P20.4: the conf was changed")
	}
	c.Shapes[pair].Refs[0], c.Shapes[pair].Refs[1] = false, true
	c.Shapes[list] = shape.Shape{}
	c.Shapes[row].Refs[0] = true
	doing(t, g, m, 0, op.Op{Kind: op.Load, A: 1, B: 0, N: 0}, empty())
	doing(t, g, m, 0, op.Op{Kind: op.New, A: 0, B: pair}, ref(1))
	doing(t, g, m, 0, op.Op{Kind: op.Load, A: 1, B: 0, N: 1}, plain(0))
	doing(t, g, m, 0, op.Op{Kind: op.Array, A: 2, B: list, N: 2}, ref(2))
	doing(t, g, m, 0, op.Op{Kind: op.Array, A: 3, B: row, N: 2}, ref(3))
	doing(t, g, m, 0, op.Op{Kind: op.Get, A: 4, B: 3, N: 1}, plain(0))
	standsAs(t, g, m)
}

// TestListsAreNew: what a caller writes into a list, or appends to it, shows
// nowhere.
func TestListsAreNew(t *testing.T) {
	g, m := laden(t)
	spoil := func(l []op.Value) {
		for i := range l {
			l[i] = ref(7)
		}
		l = append(l, ref(7), ref(8))
		for i := range l[:cap(l)] {
			l[:cap(l)][i] = ref(9)
		}
	}
	for _, ask := range []func() []op.Value{
		func() []op.Value { return g.Locals(0) },
		func() []op.Value { return g.Locals(1) },
		func() []op.Value { return g.Globals() },
	} {
		first, second := ask(), ask()
		want := slices.Clone(second)
		spoil(first)
		spoil(first[:cap(first)])
		if !sameAll(second, want) || !sameAll(ask(), want) {
			t.Fatal("P20.4: a list is shared")
		}
		standsAs(t, g, m)
	}
	first, second := g.Reach(), g.Reach()
	for i := range first[:cap(first)] {
		first[:cap(first)][i] = 77
	}
	if !slices.Equal(second, []int{0, 1, 2}) || !slices.Equal(g.Reach(), second) {
		t.Fatal("P20.4: Reach is shared")
	}
	standsAs(t, g, m)
}

// TestListsStay: a list that was handed out is not changed by what is done later.
func TestListsStay(t *testing.T) {
	g, m := laden(t)
	locals, globals, reach := g.Locals(0), g.Globals(), g.Reach()
	wasLocals, wasGlobals, wasReach := slices.Clone(locals), slices.Clone(globals), slices.Clone(reach)
	doing(t, g, m, 0, op.Op{Kind: op.Set, N: 0, B: 2}, op.Value{})
	doing(t, g, m, 0, op.Op{Kind: op.Clear, A: 3}, empty())
	doing(t, g, m, 0, op.Op{Kind: op.New, A: 4, B: nothing}, ref(3))
	doing(t, g, m, 0, op.Op{Kind: op.Leave}, op.Value{})
	joinIs(t, g, m, 0)
	standsAs(t, g, m)
	if !sameAll(locals, wasLocals) || !sameAll(globals, wasGlobals) || !slices.Equal(reach, wasReach) {
		t.Fatal("P20.4: a list is kept")
	}
}

// anyOp is an operation of any kind on a graph of fine, mostly one that op.Check
// takes.
func anyOp(next func() uint64) op.Op {
	n := func(count uint64) int { return int(next() % count) }
	o := op.Op{Kind: 1 + n(16), A: n(5), B: n(5), C: n(5), N: n(3), Z: complex(float64(n(9)), float64(n(3)))}
	switch {
	case o.Kind == op.New && n(4) > 0:
		o.B = []int{pair, mixed, nothing}[n(3)]
	case o.Kind == op.Array && n(4) > 0:
		o.B, o.N = list+n(2), n(50)
	case n(3) == 0:
		o.N = n(12) - 1
	}
	if n(40) == 0 {
		o.Kind = n(22) - 1
	}
	return o
}

// TestLongRun does operations of all kinds, of threads that come and go; what
// was not reached once never is again.
func TestLongRun(t *testing.T) {
	const many = 4000
	for round := range 12 {
		next := scattered()
		for range round {
			next()
		}
		g, m := made(t, fine(), 0, 1)
		gone, done := map[int]bool{}, map[int]int{}
		for n := range many {
			p := int(next()%5) - 1
			if next()%16 == 0 {
				joinIs(t, g, m, p)
			}
			o := anyOp(next)
			if _, e := doIs(t, g, m, p, o, next()%8 == 0); e == api.OK {
				done[o.Kind]++
			}
			if n%20 == 0 {
				standsAs(t, g, m)
			}
			staysGone(t, g, gone)
		}
		for kind := op.New; kind <= op.Leave; kind++ {
			if done[kind] == 0 {
				t.Fatalf("P20.2: the kind %d was never done", kind)
			}
		}
	}
}

// staysGone fails the test if one is reached that was gone, and adds those that
// are gone now.
func staysGone(t *testing.T, g *Graph, gone map[int]bool) {
	t.Helper()
	reach := g.Reach()
	for _, id := range reach {
		if gone[id] {
			t.Fatalf("P20.5: %d is reached again", id)
		}
	}
	for id := range g.Len() {
		if _, ok := slices.BinarySearch(reach, id); !ok {
			gone[id] = true
		}
	}
}

// TestAllShortRuns does all runs of five of some operations, from a beginning
// that has two pairs.
func TestAllShortRuns(t *testing.T) {
	ops := []op.Op{
		{Kind: op.Store, A: 0, N: 0, B: 1},
		{Kind: op.Store, A: 1, N: 0, B: 0},
		{Kind: op.Load, A: 1, B: 0, N: 0},
		{Kind: op.Load, A: 0, B: 1, N: 0},
		{Kind: op.Clear, A: 0},
		{Kind: op.Copy, A: 1, B: 0},
		{Kind: op.Set, N: 0, B: 0},
		{Kind: op.Look, A: 0, N: 0},
		{Kind: op.Leave},
	}
	runs := 1
	for range 5 {
		runs *= len(ops)
	}
	for run := range runs {
		g, m := made(t, fine(), 0, 1)
		gone := map[int]bool{}
		doIs(t, g, m, 0, op.Op{Kind: op.New, A: 0, B: pair}, false)
		doIs(t, g, m, 0, op.Op{Kind: op.New, A: 1, B: pair}, false)
		for n, rest := 0, run; n < 5; n, rest = n+1, rest/len(ops) {
			doIs(t, g, m, 0, ops[rest%len(ops)], false)
			staysGone(t, g, gone)
		}
		if got, want := g.Reach(), m.reach(); !slices.Equal(got, want) {
			t.Fatalf("P20.3: run %d: Reach is %v, not %v", run, got, want)
		}
	}
}

// TestGraphsStandApart: what is done in one shows in no other one.
func TestGraphsStandApart(t *testing.T) {
	first, ofFirst := laden(t)
	second, ofSecond := made(t, fine(), 0)
	standsAs(t, second, ofSecond)
	doing(t, second, ofSecond, 0, op.Op{Kind: op.New, A: 0, B: nothing}, ref(0))
	standsAs(t, first, ofFirst)
	doing(t, first, ofFirst, 0, op.Op{Kind: op.Leave}, op.Value{})
	standsAs(t, second, ofSecond)
	third, ofThird := made(t, fine())
	standsAs(t, third, ofThird)
}
