package op

import (
	"math"
	"reflect"
	"slices"
	"strconv"
	"strings"
	"testing"

	"spolia/api"
	"spolia/conf"
	"spolia/shape"
)

// row is what the chapter says of a kind: its words as they stand there, and
// which numbers of it are locals or a global.
type row struct {
	kind   int
	words  string
	locals string
	global bool
}

func rows() []row {
	return []row{
		{1, "new A B", "A", false},
		{2, "array A B N", "A", false},
		{3, "load A B N", "AB", false},
		{4, "store A N B", "AB", false},
		{5, "get A B N", "AB", false},
		{6, "put A N B", "AB", false},
		{7, "look A N", "A", true},
		{8, "set N B", "B", true},
		{9, "same A B C", "ABC", false},
		{10, "length A B", "AB", false},
		{11, "kind A B", "AB", false},
		{12, "number A Z", "A", false},
		{13, "clear A", "A", false},
		{14, "copy A B", "AB", false},
		{15, "add A B C", "ABC", false},
		{16, "mul A B C", "ABC", false},
		{17, "collect", "", false},
		{18, "leave", "", false},
	}
}

// rowOf is the row of the kind, if there is one.
func rowOf(kind int) (row, bool) {
	for _, r := range rows() {
		if r.kind == kind {
			return r, true
		}
	}
	return row{}, false
}

// names tells whether the words of the kind name this number.
func (r row) names(name string) bool {
	return slices.Contains(strings.Fields(r.words)[1:], name)
}

// only is o without what its words do not name.
func (r row) only(o Op) Op {
	n := Op{Kind: o.Kind}
	if r.names("A") {
		n.A = o.A
	}
	if r.names("B") {
		n.B = o.B
	}
	if r.names("C") {
		n.C = o.C
	}
	if r.names("N") {
		n.N = o.N
	}
	if r.names("Z") {
		n.Z = o.Z
	}
	return n
}

// print says o by putting what it has in place of the letters.
func (r row) print(o Op) string {
	var said []string
	for _, word := range strings.Fields(r.words) {
		switch word {
		case "A":
			word = strconv.Itoa(o.A)
		case "B":
			word = strconv.Itoa(o.B)
		case "C":
			word = strconv.Itoa(o.C)
		case "N":
			word = strconv.Itoa(o.N)
		case "Z":
			word = sixteen(real(o.Z)) + " " + sixteen(imag(o.Z))
		}
		said = append(said, word)
	}
	return strings.Join(said, " ")
}

// sixteen are the digits of a part's bits, digit by digit, those of NaNs alike.
func sixteen(x float64) string {
	if x != x {
		return "7ff8000000000000"
	}
	digits := make([]byte, 16)
	for i := range digits {
		digits[i] = "0123456789abcdef"[math.Float64bits(x)>>(60-4*i)&15]
	}
	return string(digits)
}

// put is o with n as the number of this name.
func put(o Op, name rune, n int) Op {
	switch name {
	case 'A':
		o.A = n
	case 'B':
		o.B = n
	case 'C':
		o.C = n
	case 'N':
		o.N = n
	}
	return o
}

// model is what Check and Need are to answer of a conf that may be, with sizes
// counted by filling fragments up.
func model(c conf.Conf, o Op) (api.Errno, int, int) {
	r, ok := rowOf(o.Kind)
	if !ok {
		return api.ErrRange, 0, 0
	}
	for _, name := range r.locals {
		if n := map[rune]int{'A': o.A, 'B': o.B, 'C': o.C}[name]; n < 0 || n >= c.Locals {
			return api.ErrRange, 0, 0
		}
	}
	if r.global && (o.N < 0 || o.N >= c.Globals) {
		return api.ErrRange, 0, 0
	}
	if o.Kind > 2 {
		return api.OK, 0, 0
	}
	if o.B < 0 || o.B >= len(c.Shapes) || c.Shapes[o.B].Array != (o.Kind == 2) {
		return api.ErrKind, 0, 0
	}
	frags, spine := 1, 0
	if o.Kind == 1 {
		for room := 6; room < len(c.Shapes[o.B].Refs); room += 7 {
			frags++
		}
	} else {
		if o.N < 0 || o.N > 512 {
			return api.ErrIndex, 0, 0
		}
		for room := 0; room < o.N; room += 8 {
			frags++
		}
		if frags > 5 {
			spine = frags + 1
		}
	}
	if frags > c.Frags || spine > c.Spine {
		return api.ErrLarge, 0, 0
	}
	return api.OK, frags, spine
}

func object(n int) shape.Shape { return shape.Shape{Refs: make([]bool, n)} }

func array() shape.Shape { return shape.Shape{Array: true, Refs: []bool{true}} }

// fine is a conf that may be, with arrays as 1 and 3.
func fine() conf.Conf {
	return conf.Conf{
		Frags: 100, Spine: 200, Globals: 3, Threads: 2, Locals: 5, Cache: 2, Stack: 4, Low: 1,
		Shapes: []shape.Shape{object(20), array(), object(0), array()},
	}
}

// badConfs lists confs that may not be, by their numbers and by their shapes.
func badConfs() []conf.Conf {
	l := []conf.Conf{{}}
	for _, spoil := range []func(c *conf.Conf){
		func(c *conf.Conf) { c.Frags = 3 },
		func(c *conf.Conf) { c.Frags = 1025 },
		func(c *conf.Conf) { c.Spine = -1 },
		func(c *conf.Conf) { c.Globals = 9 },
		func(c *conf.Conf) { c.Threads = 0 },
		func(c *conf.Conf) { c.Locals = 9 },
		func(c *conf.Conf) { c.Stack = 0 },
		func(c *conf.Conf) { c.Low = 101 },
		func(c *conf.Conf) { c.Threads, c.Cache, c.Frags = 16, 8, 127 },
		func(c *conf.Conf) { c.Shapes = nil },
		func(c *conf.Conf) { c.Shapes = append(c.Shapes, shape.Shape{Array: true}) },
		func(c *conf.Conf) { c.Shapes = append(c.Shapes, object(41)) },
		func(c *conf.Conf) { c.Shapes = slices.Repeat(c.Shapes, 3) },
	} {
		c := fine()
		spoil(&c)
		l = append(l, c)
	}
	return l
}

// good is an operation of the kind that fine takes.
func good(kind int) Op {
	o := Op{Kind: kind, A: 1, B: 2, C: 3, N: 2, Z: 5 - 7i}
	if kind == Array {
		o.B = 3
	}
	return o
}

// noKinds lists numbers that are no kinds, some of which would wrap to one.
func noKinds() []int {
	return []int{
		0, -1, -2, -18, -19, math.MinInt, math.MinInt + 1, math.MinInt32, -1 << 32, 1 - 1<<32, -255, -1 << 16,
		19, 20, 21, 32, 256, 257, 1<<16 + 1, math.MaxInt32, 1 << 32, 1<<32 + 1, 1 << 62, math.MaxInt - 1, math.MaxInt,
	}
}

// far lists numbers that are nowhere, some of which would wrap to what is.
func far() []int {
	return []int{
		-1, -2, -9, -256, math.MinInt32, -1 << 32, 1 - 1<<32, math.MinInt, math.MinInt + 1,
		1024, 1 << 16, math.MaxInt32, 1 << 32, 1<<32 + 1, 1 << 61, 1 << 62, math.MaxInt - 1, math.MaxInt,
	}
}

// oddFloats lists floats, their opposites, and many NaNs.
func oddFloats() []float64 {
	l := []float64{
		0, 1, 2, 0.5, 1.5, 5e-324, 0x1p-1022, math.Nextafter(1, 2), math.Pi, 1 << 53, 1e300, math.MaxFloat64, math.Inf(1),
	}
	for _, x := range l {
		l = append(l, math.Copysign(x, -1))
	}
	for _, bits := range []uint64{
		0x7FF8000000000000, 0x7FF8000000000001, 0x7FF0000000000001, 0x7FFFFFFFFFFFFFFF, 0xFFF8000000000000, 0xFFF0000000000001,
	} {
		l = append(l, math.Float64frombits(bits))
	}
	return l
}

func oddWords() []complex128 {
	var l []complex128
	for _, x := range oddFloats() {
		for _, y := range oddFloats() {
			l = append(l, complex(x, y))
		}
	}
	return l
}

// alike tells by the bits whether two floats are one, all NaNs being one.
func alike(x, y float64) bool {
	return math.Float64bits(x) == math.Float64bits(y) || x != x && y != y
}

func alikeWords(v, w complex128) bool {
	return alike(real(v), real(w)) && alike(imag(v), imag(w))
}

// same tells whether two operations are one, but for which NaN.
func same(o, p Op) bool {
	z := alikeWords(o.Z, p.Z)
	o.Z, p.Z = 0, 0
	return z && o == p
}

// empty tells whether all of o is 0, by the bits.
func empty(o Op) bool {
	return o == Op{} && !math.Signbit(real(o.Z)) && !math.Signbit(imag(o.Z))
}

// scattered answers a function that tells numbers of any bits, the same ones in
// every run.
func scattered() func() uint64 {
	state := uint64(19)
	return func() uint64 {
		state += 0x9E3779B97F4A7C15
		z := (state ^ state>>30) * 0xBF58476D1CE4E5B9
		z = (z ^ z>>27) * 0x94D049BB133111EB
		return z ^ z>>31
	}
}

// checkIs fails the test unless Check and Need answer this.
func checkIs(t *testing.T, what string, c conf.Conf, o Op, e api.Errno, frags, spine int) {
	t.Helper()
	if got := Check(c, o); got != e {
		t.Errorf("P19.1: %s: Check of %+v is %d, not %d", what, o, got, e)
	}
	if f, s := Need(c, o); f != frags || s != spine {
		t.Errorf("P19.1: %s: Need of %+v is %d, %d, not %d, %d", what, o, f, s, frags, spine)
	}
}

// asModel fails the test unless Check and Need answer as the model does.
func asModel(t *testing.T, what string, c conf.Conf, o Op) api.Errno {
	t.Helper()
	e, frags, spine := model(c, o)
	checkIs(t, what, c, o, e, frags, spine)
	return e
}

func TestLimits(t *testing.T) {
	if api.MaxLength != 512 || api.Inline != 4 || api.FragWords != 8 || api.MaxFields != 40 || api.MaxLocals != 8 || api.MaxGlobals != 8 {
		t.Fatal("the tests of chapter 19 are written for other limits")
	}
}

func TestKinds(t *testing.T) {
	for i, kind := range []int{
		New, Array, Load, Store, Get, Put, Look, Set, Same_, Length, Kind_, Number, Clear, Copy, Add, Mul, Collect, Leave,
	} {
		if kind != i+1 || rows()[i].kind != kind {
			t.Errorf("P19.1: the kind %d is %d", i+1, kind)
		}
	}
}

func TestExample(t *testing.T) {
	if s := Print(Op{Kind: New, A: 1}); s != "new 1 0" {
		t.Errorf("P19.2: %q", s)
	}
}

func TestCheckGood(t *testing.T) {
	for _, r := range rows() {
		if e := asModel(t, "ordinary", fine(), good(r.kind)); e != api.OK {
			t.Errorf("P19.1: the kind %d: %d", r.kind, e)
		}
	}
}

// TestCheckConf: a conf that may not be gives ErrRange alone, whatever is wrong
// with it, and whatever the operation is.
func TestCheckConf(t *testing.T) {
	for i, c := range badConfs() {
		if conf.Check(c) == api.OK {
			t.Fatalf("P19.1: conf %d may be", i)
		}
		for _, r := range rows() {
			checkIs(t, "a conf that may not be", c, good(r.kind), api.ErrRange, 0, 0)
			checkIs(t, "a conf that may not be", c, Op{Kind: r.kind}, api.ErrRange, 0, 0)
			checkIs(t, "a conf that may not be", c, Op{Kind: r.kind, B: 9, N: -1}, api.ErrRange, 0, 0)
		}
	}
}

func TestCheckNoKind(t *testing.T) {
	for _, kind := range noKinds() {
		checkIs(t, "no kind", fine(), Op{Kind: kind}, api.ErrRange, 0, 0)
		checkIs(t, "no kind", fine(), Op{Kind: kind, A: 1, B: 1, C: 1, N: 1}, api.ErrRange, 0, 0)
	}
}

// TestCheckEachNumber puts each number into each place of each kind, with all
// numbers of locals and globals that there may be.
func TestCheckEachNumber(t *testing.T) {
	numbers := append(far(), 0, 1, 2, 3, 4, 5, 6, 7, 8, 9)
	for locals := 1; locals <= 8; locals++ {
		for globals := 0; globals <= 8; globals++ {
			c := fine()
			c.Locals, c.Globals = locals, globals
			for _, r := range rows() {
				base := Op{Kind: r.kind}
				if r.kind == Array {
					base.B = 1
				}
				for _, name := range "ABCN" {
					for _, n := range numbers {
						o := put(base, name, n)
						e := asModel(t, "a number", c, o)
						local := strings.ContainsRune(r.locals, name) && (n < 0 || n >= locals)
						global := r.global && name == 'N' && (n < 0 || n >= globals)
						if isRange := e == api.ErrRange; isRange != (local || global || r.global && globals == 0) {
							t.Fatalf("P19.1: %d locals, %d globals: %+v: %d", locals, globals, o, e)
						}
					}
				}
			}
		}
	}
}

// TestCheckShapes asks for each kind that there is and is not, from one shape up
// to eight.
func TestCheckShapes(t *testing.T) {
	for many := 1; many <= 8; many++ {
		c := fine()
		c.Locals, c.Shapes = 1, nil
		for i := range many {
			c.Shapes = append(c.Shapes, []shape.Shape{object(i), array()}[(i*i+many)%2])
		}
		for _, b := range append(far(), 0, 1, 2, 3, 4, 5, 6, 7, 8, 9) {
			for _, kind := range []int{New, Array} {
				want := api.ErrKind
				if b >= 0 && b < many && c.Shapes[b].Array == (kind == Array) {
					want = api.OK
				}
				if e := asModel(t, "a shape", c, Op{Kind: kind, B: b}); e != want {
					t.Errorf("P19.1: the kind %d of %d: %d", b, many, e)
				}
			}
		}
	}
}

// TestObjects makes objects of all sizes, in heaps that are large enough and
// ones that are not.
func TestObjects(t *testing.T) {
	for fields := range 41 {
		for frags := 4; frags <= 8; frags++ {
			c := fine()
			c.Frags, c.Shapes, c.Spine = frags, []shape.Shape{array(), object(fields)}, 0
			for _, n := range append(far(), 0, 1, 513) {
				asModel(t, "an object", c, Op{Kind: New, B: 1, N: n, C: n, Z: 1})
			}
		}
	}
	c := fine()
	c.Frags, c.Shapes = 4, []shape.Shape{object(27), object(28)}
	checkIs(t, "all fragments", c, Op{Kind: New, B: 0}, api.OK, 4, 0)
	checkIs(t, "one too many", c, Op{Kind: New, B: 1}, api.ErrLarge, 0, 0)
}

// TestArrays makes arrays of all lengths, and of none, with as many fragments
// and words of a spine as they need, with one less, and with more.
func TestArrays(t *testing.T) {
	for n := -3; n <= 520; n++ {
		length := min(max(n, 0), 512)
		frags := 1 + (length+7)/8
		for _, f := range []int{frags - 1, frags, frags + 1, 1024} {
			for _, s := range []int{0, frags, frags + 1, frags + 2, 2048} {
				c := fine()
				c.Frags, c.Spine, c.Locals, c.Cache = max(f, 4), s, 1, 0
				o := Op{Kind: Array, B: 3, N: n}
				e := asModel(t, "an array", c, o)
				if n < 0 || n > 512 {
					if e != api.ErrIndex {
						t.Fatalf("P19.1: %d elements: %d", n, e)
					}
				} else if large := c.Frags < frags || n > 32 && s < frags+1; (e == api.ErrLarge) != large {
					t.Fatalf("P19.1: %d elements, %d fragments, %d words: %d", n, f, s, e)
				}
			}
		}
	}
	for _, n := range far() {
		checkIs(t, "no length", fine(), Op{Kind: Array, B: 1, N: n}, api.ErrIndex, 0, 0)
	}
}

// TestFirstError lays several faults into one operation: the one that is named
// first is told.
func TestFirstError(t *testing.T) {
	c := fine()
	c.Frags, c.Spine = 6, 6
	for _, x := range []struct {
		what string
		o    Op
		e    api.Errno
	}{
		{"no local ahead of no kind", Op{Kind: New, A: 5, B: 9}, api.ErrRange},
		{"no local ahead of an array", Op{Kind: New, A: -1, B: 1}, api.ErrRange},
		{"no local ahead of no array", Op{Kind: Array, A: 5, B: 0, N: -1}, api.ErrRange},
		{"no local ahead of no length", Op{Kind: Array, A: 5, B: 1, N: 513}, api.ErrRange},
		{"no local ahead of too long", Op{Kind: Array, A: 5, B: 1, N: 512}, api.ErrRange},
		{"no array ahead of no length", Op{Kind: Array, B: 0, N: 513}, api.ErrKind},
		{"no kind ahead of no length", Op{Kind: Array, B: 4, N: -1}, api.ErrKind},
		{"no kind ahead of too long", Op{Kind: Array, B: -1, N: 512}, api.ErrKind},
		{"no length ahead of too long", Op{Kind: Array, B: 1, N: 513}, api.ErrIndex},
		{"too long", Op{Kind: Array, B: 1, N: 512}, api.ErrLarge},
		{"no spine of so many", Op{Kind: Array, B: 1, N: 40}, api.ErrLarge},
		{"no spine needed", Op{Kind: Array, B: 1, N: 32}, api.OK},
	} {
		if e := asModel(t, x.what, c, x.o); e != x.e {
			t.Errorf("P19.1: %s: %d", x.what, e)
		}
	}
}

// TestScatteredOperations asks for operations of any numbers, most of them near
// the bounds, in heaps of many sizes.
func TestScatteredOperations(t *testing.T) {
	next := scattered()
	number := func() int {
		if next()%8 == 0 {
			return far()[next()%uint64(len(far()))]
		}
		return int(next()%10) - 1
	}
	passed := 0
	for range 60000 {
		c := fine()
		c.Frags, c.Spine = 4+int(next()%80), int(next()%90)
		c.Locals, c.Globals, c.Cache = 1+int(next()%8), int(next()%9), 0
		o := Op{Kind: int(next()%20) + 1 - int(next()%2), A: number(), B: number(), C: number(), N: number(), Z: 1i}
		if o.Kind == Array {
			o.N = int(next()%540) - 10
		}
		if asModel(t, "any numbers", c, o) == api.OK {
			passed++
		}
	}
	if passed < 1000 {
		t.Errorf("P19.1: only %d passed", passed)
	}
}

// TestNothingIsChanged: the Conf that is handed in stays, spare room too.
func TestNothingIsChanged(t *testing.T) {
	roomy := func() conf.Conf {
		c := fine()
		shapes := make([]shape.Shape, 4, 8)
		copy(shapes, c.Shapes)
		shapes[:8][5] = object(7)
		for i := range 2 {
			shapes[2*i+1].Refs = []bool{true, false, true}[:1]
		}
		c.Shapes = shapes
		return c
	}
	c, want := roomy(), roomy()
	for _, r := range rows() {
		for b := range 9 {
			for range 2 {
				Check(c, Op{Kind: r.kind, B: b, N: 40})
				Need(c, Op{Kind: r.kind, B: b, N: 40})
			}
		}
	}
	if !reflect.DeepEqual(c, want) || !reflect.DeepEqual(c.Shapes[:8], want.Shapes[:8]) {
		t.Error("P0.4: what is handed in is changed")
	}
	// Behind its length nothing is there, though a shape stands in its memory.
	checkIs(t, "spare room", c, Op{Kind: New, B: 5}, api.ErrKind, 0, 0)
}

// TestSame holds each word against each other one, as a reference and as a
// number.
func TestSame(t *testing.T) {
	words := oddWords()
	for i, v := range words {
		for _, w := range words[i%7:] {
			want := alikeWords(v, w)
			for _, ref := range []bool{false, true} {
				if got := Same(Value{Ref: ref, Z: v}, Value{Ref: ref, Z: w}); got != want {
					t.Fatalf("P19.1: Same of %v and %v, %t: %t", v, w, ref, got)
				}
				if Same(Value{Ref: ref, Z: v}, Value{Ref: !ref, Z: w}) {
					t.Fatalf("P19.1: Same of %v and %v, one a reference", v, w)
				}
			}
		}
		if !Same(Value{Z: v}, Value{Z: v}) {
			t.Fatalf("P19.1: Same of %v and itself", v)
		}
	}
}

// printedAs fails the test unless o is printed as its row says, and what is
// printed is parsed to what its words name of it.
func printedAs(t *testing.T, o Op) {
	t.Helper()
	r, ok := rowOf(o.Kind)
	if !ok {
		t.Fatalf("P19.2: no kind %d", o.Kind)
	}
	s := Print(o)
	if want := r.print(o); s != want {
		t.Fatalf("P19.2: Print of %+v is %q, not %q", o, s, want)
	}
	if p, e := Parse(s); e != api.OK || !same(p, r.only(o)) {
		t.Fatalf("P19.3: Parse of %q is %+v, %d", s, p, e)
	}
}

func TestPrint(t *testing.T) {
	for _, x := range []struct {
		o Op
		s string
	}{
		{good(New), "new 1 2"}, {good(Array), "array 1 3 2"},
		{Op{Kind: Load, A: 4, B: 5, C: 6, N: 7}, "load 4 5 7"}, {Op{Kind: Store, A: 4, B: 5, C: 6, N: 7}, "store 4 7 5"},
		{Op{Kind: Get, A: 4, B: 5, C: 6, N: 7}, "get 4 5 7"}, {Op{Kind: Put, A: 4, B: 5, C: 6, N: 7}, "put 4 7 5"},
		{Op{Kind: Look, A: 4, B: 5, C: 6, N: 7}, "look 4 7"}, {Op{Kind: Set, A: 4, B: 5, C: 6, N: 7}, "set 7 5"},
		{Op{Kind: Same_, A: 4, B: 5, C: 6, N: 7}, "same 4 5 6"}, {Op{Kind: Length, A: 4, B: 5, C: 6, N: 7}, "length 4 5"},
		{Op{Kind: Kind_, A: 4, B: 5, C: 6, N: 7}, "kind 4 5"}, {Op{Kind: Clear, A: 4, B: 5, C: 6, N: 7}, "clear 4"},
		{Op{Kind: Copy, A: 4, B: 5, C: 6, N: 7}, "copy 4 5"}, {Op{Kind: Add, A: 4, B: 5, C: 6, N: 7}, "add 4 5 6"},
		{Op{Kind: Mul, A: 4, B: 5, C: 6, N: 7}, "mul 4 5 6"}, {Op{Kind: Collect, A: 4, B: 5, C: 6, N: 7}, "collect"},
		{Op{Kind: Leave, A: 4, B: 5, C: 6, N: 7}, "leave"},
		{Op{Kind: Number, A: 4, B: 5, C: 6, N: 7, Z: 1 + 2i}, "number 4 3ff0000000000000 4000000000000000"},
		{Op{Kind: Number}, "number 0 0000000000000000 0000000000000000"},
		{Op{Kind: Number, Z: complex(math.Inf(-1), math.Pi)}, "number 0 fff0000000000000 400921fb54442d18"},
		{Op{Kind: Set, N: -3, B: math.MinInt64}, "set -3 -9223372036854775808"},
	} {
		if s := Print(x.o); s != x.s {
			t.Errorf("P19.2: %q, not %q", s, x.s)
		}
		printedAs(t, x.o)
	}
	for _, kind := range noKinds() {
		for _, o := range []Op{{Kind: kind}, {Kind: kind, A: 1, B: 2, C: 3, N: 4, Z: 5}} {
			if s := Print(o); s != "" {
				t.Errorf("P19.2: the kind %d: %q", kind, s)
			}
		}
	}
}

// TestPrintAndParse goes through all kinds with numbers of any size, whether
// Check takes them or not.
func TestPrintAndParse(t *testing.T) {
	next := scattered()
	number := func() int { return int(next()) >> (next() % 64) }
	for _, r := range rows() {
		for _, n := range append(far(), 0, 1, 9, 10, 99, 100, -10, -99) {
			for _, name := range "ABCN" {
				printedAs(t, put(good(r.kind), name, n))
			}
		}
		for range 3000 {
			z := complex(math.Float64frombits(next()), math.Float64frombits(next()>>(next()%64)))
			printedAs(t, Op{Kind: r.kind, A: number(), B: number(), C: number(), N: number(), Z: z})
		}
	}
	for _, z := range oddWords() {
		printedAs(t, Op{Kind: Number, A: 7, Z: z})
	}
}

// refused fails the test unless s is the Print of nothing.
func refused(t *testing.T, s string) {
	t.Helper()
	if o, e := Parse(s); e != api.ErrForm || !empty(o) {
		t.Errorf("P19.2: Parse of %q is %+v, %d", s, o, e)
	}
}

func TestParseOfNone(t *testing.T) {
	for _, s := range []string{
		"", " ", "  ", "0", "1", "19", "\x00", "n", "ne", "neww", "anew", "New", "NEW", "new", "new ", "new 1", "new 1 ", "new  1",
		"new 1  2", " new 1 2", "new 1 2 ", "new 1 2 3", "new 1 2\n", "new\t1 2", "new 1\t2", "new,1,2", "new1 2", "\nnew 1 2",
		"new A B", "new 1 B", "new x 2", "new 1 2x", "new 1. 2", "new 1.0 2", "new 1e1 2", "new 0x1 2", "new 0b1 2", "new 0o1 2",
		"new 1_0 2", "new +1 2", "new 1 +2", "new -0 2", "new 1 -0", "new 01 2", "new 00 2", "new -01 2", "new 1 02", "new - 2",
		"new + 2", "new --1 2", "new -+1 2", "new 1- 2", "new \u0661 2", "new \uff11 2", "new \u22121 2",
		"new 9223372036854775808 0", "new -9223372036854775809 0", "new 18446744073709551616 0", "new 1 99999999999999999999999",
		"array 1 2", "array 1 2 3 4", "load 1 2", "store 1 2", "get 1", "put 1 2", "look 1", "set 1", "same 1 2", "length 1",
		"kind 1", "copy 1", "add 1 2", "mul 1 2", "clear", "clear ", "clear 1 0", "collect ", "collect 0", "collect\n", " collect",
		"collectleave", "collect leave", "leave ", "leave 0", "leave leave", "Leave", "same_ 1 2 3", "kind_ 1 2",
		"number", "number 1", "number 1 0 0", "number 1 1 2", "number 1 3ff0000000000000", "number 1 3ff0000000000000 ",
		"number 3ff0000000000000 3ff0000000000000", "number 1 3ff0000000000000 3ff0000000000000 0",
		"number 1 3FF0000000000000 0000000000000000", "number 1 0000000000000000 3fF0000000000000",
		"number 1 3ff000000000000 0000000000000000", "number 1 0000000000000000 000000000000000",
		"number 1 03ff0000000000000 0000000000000000", "number 1 0000000000000000 00000000000000000",
		"number 1 0x3ff0000000000000 0000000000000000", "number 1 0x3ff00000000000 0000000000000000",
		"number 1 0000000000000000 +000000000000000", "number 1 -000000000000001 0000000000000000",
		"number 1 3ff000000000000g 0000000000000000", "number 1 0000000000000000 000000000000_001",
		"number 1 10000000000000000 0000000000000000", "number 1 ffffffffffffffffff 0000000000000000",
		"number 1 00000000000000000000000000000000", "number 1 3ff00000 00000000 0000000000000000",
		"number 01 0000000000000000 0000000000000000", "number 1 1+2i", "number 1 (1+2i)", "number 1 NaN NaN",
	} {
		refused(t, s)
	}
	for _, r := range rows() {
		word := strings.Fields(r.words)[0]
		if r.words != word {
			refused(t, word)
			refused(t, r.words)
		}
		refused(t, word+" 1 2 3 4")
		refused(t, word+strings.Repeat(" ", 1000))
		refused(t, word+" "+strings.Repeat("1", 100000))
		refused(t, strings.Repeat(" ", 1000)+word)
	}
}

// TestParseOfOtherNaNs: of all bits that are a NaN's only those are printed that
// stand for all of them.
func TestParseOfOtherNaNs(t *testing.T) {
	for _, bits := range []string{
		"7ff8000000000001", "7ff0000000000001", "7fffffffffffffff", "7ff4000000000000", "7ff7ffffffffffff",
		"fff8000000000000", "fff0000000000001", "ffffffffffffffff",
	} {
		refused(t, "number 0 "+bits+" 0000000000000000")
		refused(t, "number 0 0000000000000000 "+bits)
		refused(t, "number 0 7ff8000000000000 "+bits)
	}
	for _, s := range []string{
		"number 0 7ff8000000000000 8000000000000000", "number 0 7ff0000000000000 7ff8000000000000",
		"number 0 fff0000000000000 fff0000000000000", "number 0 7ff8000000000000 7ff8000000000000",
	} {
		if o, e := Parse(s); e != api.OK || Print(o) != s {
			t.Errorf("P19.2: Parse of %q is %+v, %d", s, o, e)
		}
	}
}

// TestParseOfNearly takes what is printed, and leaves out, doubles or changes
// each one of its bytes: what is taken still is what is printed of the answer.
func TestParseOfNearly(t *testing.T) {
	taken := 0
	nearly := func(s string) {
		o, e := Parse(s)
		if e != api.OK {
			refused(t, s)
			return
		}
		taken++
		r, ok := rowOf(o.Kind)
		if !ok || r.print(o) != s || !same(o, r.only(o)) {
			t.Errorf("P19.2: Parse of %q is %+v", s, o)
		}
	}
	for _, r := range rows() {
		for _, o := range []Op{
			good(r.kind), {Kind: r.kind},
			{Kind: r.kind, A: -1, B: -20, C: -300, N: -4000, Z: complex(math.NaN(), math.Copysign(0, -1))},
		} {
			s := Print(o)
			for i := range len(s) + 1 {
				nearly(s[:i])
				nearly(s[i:])
				for _, b := range []byte(" -+0179aAfgNw_.\n\t\x00\xff") {
					nearly(s[:i] + string([]byte{b}) + s[i:])
					if i < len(s) {
						nearly(s[:i] + string([]byte{b}) + s[i+1:])
						nearly(s[:i] + s[i+1:])
					}
				}
			}
		}
	}
	if taken < 500 {
		t.Errorf("P19.2: only %d were taken", taken)
	}
}

// TestParts: an Op and a Value are plain values, of the parts that the chapter
// lists and no others.
func TestParts(t *testing.T) {
	if n := reflect.TypeFor[Op]().NumField(); n != 6 {
		t.Errorf("P19.1: an Op has %d parts", n)
	}
	if n := reflect.TypeFor[Value]().NumField(); n != 2 {
		t.Errorf("P19.1: a Value has %d parts", n)
	}
	if reflect.TypeFor[Op]().NumMethod() != 0 || reflect.TypeFor[*Op]().NumMethod() != 0 {
		t.Error("P19.1: an Op has calls")
	}
	if reflect.TypeFor[Value]().NumMethod() != 0 || reflect.TypeFor[*Value]().NumMethod() != 0 {
		t.Error("P19.1: a Value has calls")
	}
}
