package conf

import (
	"math"
	"testing"

	"spolia/api"
	"spolia/shape"
)

// fine is a conf that Check takes, with every number off its bounds and unlike
// the others.
func fine() Conf {
	return Conf{
		Frags: 100, Spine: 200, Globals: 3, Threads: 5, Locals: 4, Cache: 6, Stack: 50, Low: 20,
		Shapes: []shape.Shape{object(2), array(true), object(7), array(false)},
	}
}

// object has n fields, every third of them a reference.
func object(n int) shape.Shape {
	refs := make([]bool, n)
	for k := range refs {
		refs[k] = k%3 == 0
	}
	return shape.Shape{Refs: refs}
}

func array(ref bool) shape.Shape { return shape.Shape{Array: true, Refs: []bool{ref}} }

// manyShapes lists n kinds that may be.
func manyShapes(n int) []shape.Shape {
	shapes := make([]shape.Shape, n)
	for kind := range shapes {
		shapes[kind] = object(kind % 41)
	}
	return shapes
}

// farOff lists numbers that are in no bounds.
func farOff() []int {
	return []int{
		-1, -2, -100, math.MinInt32, math.MinInt, math.MinInt + 1,
		2049, 1 << 16, math.MaxInt32, math.MaxInt, math.MaxInt - 1, math.MaxInt/2 + 1, math.MaxInt/8 + 1, math.MaxInt/16 + 1,
	}
}

// number is one of a conf's, its bounds, and how it is set.
type number struct {
	name      string
	low, high int
	set       func(c *Conf, n int)
}

// numbers lists those whose bounds stand alone, with a base in which nothing
// else goes wrong at either bound.
func numbers() []number {
	return []number{
		{"Frags", 4, 1024, func(c *Conf, n int) { c.Frags, c.Low, c.Cache = n, 0, 0 }},
		{"Spine", 0, 2048, func(c *Conf, n int) { c.Spine = n }},
		{"Globals", 0, 8, func(c *Conf, n int) { c.Globals = n }},
		{"Threads", 1, 16, func(c *Conf, n int) { c.Threads = n }},
		{"Threads without Cache", 1, 16, func(c *Conf, n int) { c.Threads, c.Cache = n, 0 }},
		{"Locals", 1, 8, func(c *Conf, n int) { c.Locals = n }},
		{"Cache", 0, 8, func(c *Conf, n int) { c.Cache = n }},
		{"Cache of one thread", 0, 8, func(c *Conf, n int) { c.Cache, c.Threads = n, 1 }},
		{"Stack", 1, 256, func(c *Conf, n int) { c.Stack = n }},
		{"Low", 0, 100, func(c *Conf, n int) { c.Low = n }},
		{"Low of all Frags", 0, 1024, func(c *Conf, n int) { c.Low, c.Frags = n, 1024 }},
		{"Low of few Frags", 0, 4, func(c *Conf, n int) { c.Low, c.Frags, c.Cache = n, 4, 0 }},
	}
}

// sameShapes compares by what is in them; nil and empty are one (P0.4).
func sameShapes(a, b []shape.Shape) bool {
	if len(a) != len(b) {
		return false
	}
	for kind := range a {
		if !sameShape(a[kind], b[kind]) {
			return false
		}
	}
	return true
}

func sameShape(a, b shape.Shape) bool {
	if a.Array != b.Array || len(a.Refs) != len(b.Refs) {
		return false
	}
	for k := range a.Refs {
		if a.Refs[k] != b.Refs[k] {
			return false
		}
	}
	return true
}

func sameConf(a, b Conf) bool {
	return a.Frags == b.Frags && a.Spine == b.Spine && a.Globals == b.Globals && a.Threads == b.Threads &&
		a.Locals == b.Locals && a.Cache == b.Cache && a.Stack == b.Stack && a.Low == b.Low && sameShapes(a.Shapes, b.Shapes)
}

func TestLimits(t *testing.T) {
	if api.MaxFrags != 1024 || api.MaxSpine != 2048 || api.MaxGlobals != 8 || api.MaxThreads != 16 || api.MaxLocals != 8 ||
		api.MaxCache != 8 || api.MaxStack != 256 || api.MaxShapes != 8 || api.MaxFields != 40 || api.ErrRange != 1 || api.ErrKind != 4 {
		t.Fatal("the tests of chapter 4 are written for other limits")
	}
}

// taken fails the test unless Check answers want of the conf and of its copy.
func taken(t *testing.T, what string, c Conf, want api.Errno) {
	t.Helper()
	if e := Check(c); e != want {
		t.Errorf("P4.1: %s: Check answers %d, not %d", what, e, want)
	}
	if e := Check(Copy(c)); e != want {
		t.Errorf("P4.2: %s: Check of the copy answers %d, not %d", what, e, want)
	}
}

func TestCheckEachNumber(t *testing.T) {
	taken(t, "ordinary", fine(), api.OK)
	for _, x := range numbers() {
		for n := -3; n <= 2100; n++ {
			c, want := fine(), api.OK
			x.set(&c, n)
			if n < x.low || n > x.high {
				want = api.ErrRange
			}
			taken(t, x.name, c, want)
		}
		for _, n := range farOff() {
			c := fine()
			x.set(&c, n)
			taken(t, x.name, c, api.ErrRange)
		}
	}
}

func TestCheckNothingSet(t *testing.T) {
	taken(t, "nothing set", Conf{}, api.ErrRange)
	taken(t, "least", Conf{Frags: 4, Threads: 1, Locals: 1, Stack: 1, Shapes: []shape.Shape{{}}}, api.OK)
	taken(t, "example", Conf{Frags: 3, Threads: 1, Locals: 1, Stack: 1, Shapes: []shape.Shape{{}}}, api.ErrRange)
	taken(t, "most", Conf{
		Frags: 1024, Spine: 2048, Globals: 8, Threads: 16, Locals: 8, Cache: 8, Stack: 256, Low: 1024, Shapes: manyShapes(8),
	}, api.OK)
}

func TestCheckThreadsTimesCache(t *testing.T) {
	for frags := 4; frags <= 140; frags++ {
		for threads := 1; threads <= 16; threads++ {
			for cache := 0; cache <= 8; cache++ {
				c, want := fine(), api.OK
				c.Frags, c.Threads, c.Cache, c.Low = frags, threads, cache, 0
				if threads*cache > frags {
					want = api.ErrRange
				}
				if e := Check(c); e != want {
					t.Fatalf("P4.1: %d threads with caches of %d in %d fragments: %d, not %d", threads, cache, frags, e, want)
				}
			}
		}
	}
}

// TestCheckNothingWraps takes products that would wrap to what fits, and pairs
// that would cancel one another.
func TestCheckNothingWraps(t *testing.T) {
	half := math.MaxInt/2 + 1
	for _, x := range [][2]int{{half, 2}, {2, half}, {half, 4}, {half, half}, {-1, -1}, {-5, -6}, {-5, 6}, {5, -6}, {math.MinInt, 2}, {math.MaxInt, math.MaxInt}} {
		c := fine()
		c.Threads, c.Cache = x[0], x[1]
		taken(t, "a product out of bounds", c, api.ErrRange)
	}
	c := fine()
	c.Frags, c.Low = math.MaxInt, math.MaxInt
	taken(t, "Low and Frags out of bounds together", c, api.ErrRange)
	c.Frags, c.Low = math.MinInt, math.MinInt
	taken(t, "Low and Frags below 0 together", c, api.ErrRange)
	c.Frags, c.Low, c.Cache = 3, 3, 0
	taken(t, "Low as many as too few Frags", c, api.ErrRange)
}

func TestCheckShapes(t *testing.T) {
	for n := range 20 {
		c, want := fine(), api.OK
		c.Shapes = manyShapes(n)
		if n < 1 || n > 8 {
			want = api.ErrKind
		}
		taken(t, "so many shapes", c, want)
	}
	for _, none := range [][]shape.Shape{nil, {}, make([]shape.Shape, 0, 3)} {
		c := fine()
		c.Shapes = none
		taken(t, "no shapes", c, api.ErrKind)
	}
	odd := []shape.Shape{{Array: true}, {Array: true, Refs: []bool{true, true}}, object(41), object(1000)}
	for _, s := range odd {
		for n := 1; n <= 8; n++ {
			for kind := range n {
				c := fine()
				c.Shapes = manyShapes(n)
				c.Shapes[kind] = s
				taken(t, "a shape that may not be", c, api.ErrKind)
			}
		}
	}
}

func TestCheckOrder(t *testing.T) {
	for _, shapes := range [][]shape.Shape{nil, manyShapes(9), {{Array: true}}, {object(41)}} {
		for _, x := range numbers() {
			for _, n := range []int{x.low - 1, x.high + 1} {
				c := fine()
				x.set(&c, n)
				c.Shapes = shapes
				taken(t, x.name+" and the shapes", c, api.ErrRange)
			}
		}
		c := fine()
		c.Frags, c.Low, c.Threads, c.Cache, c.Shapes = 29, 0, 5, 6, shapes
		taken(t, "too large caches and the shapes", c, api.ErrRange)
	}
}

// confs lists some that Check takes and some that it doesn't.
func confs() []Conf {
	odd := fine()
	odd.Frags, odd.Spine, odd.Globals, odd.Threads = math.MinInt, math.MaxInt, -1, math.MinInt+1
	odd.Locals, odd.Cache, odd.Stack, odd.Low = -2, -3, -4, -5
	odd.Shapes = append(manyShapes(60), shape.Shape{Array: true}, object(300))
	one := fine()
	one.Shapes = []shape.Shape{{}}
	return []Conf{fine(), odd, one, {}, {Frags: 1}, {Shapes: []shape.Shape{array(true)}}}
}

func TestCopyIsTheSame(t *testing.T) {
	for i, c := range confs() {
		if d := Copy(c); !sameConf(d, confs()[i]) {
			t.Errorf("P4.1: conf %d: Copy answers %v", i, d)
		}
		if !sameConf(c, confs()[i]) {
			t.Errorf("P0.4: conf %d: Copy changed it", i)
		}
		if Check(c); !sameConf(c, confs()[i]) {
			t.Errorf("P0.4: conf %d: Check changed it", i)
		}
	}
}

// spoil writes over all that is in the lists, and behind them.
func spoil(shapes []shape.Shape) {
	for kind := range shapes {
		spoilRefs(shapes[kind].Refs)
		shapes[kind].Array = !shapes[kind].Array
		shapes[kind].Refs = nil
	}
	_ = append(shapes, shape.Shape{Array: true})
}

func spoilRefs(refs []bool) {
	for k := range refs {
		refs[k] = !refs[k]
	}
	rest := refs[len(refs):cap(refs)]
	for k := range rest {
		rest[k] = !rest[k]
	}
}

func TestCopyIsItsOwn(t *testing.T) {
	for i := range confs() {
		c := confs()[i]
		first, second := Copy(c), Copy(c)
		spoil(first.Shapes)
		if !sameConf(c, confs()[i]) || !sameConf(second, confs()[i]) {
			t.Errorf("P4.1: conf %d: what is written into a copy shows elsewhere", i)
		}
		spoil(c.Shapes)
		if !sameConf(second, confs()[i]) {
			t.Errorf("P4.1: conf %d: what is written into it shows in its copy", i)
		}
	}
}

// TestCopyListsStandApart writes into each list of a copy, spare room too, and
// looks at the others.
func TestCopyListsStandApart(t *testing.T) {
	for kind := range fine().Shapes {
		c := Copy(fine())
		spoilRefs(c.Shapes[kind].Refs)
		_ = append(c.Shapes[kind].Refs, true, true, true, true, true, true, true, true)
		for other, s := range c.Shapes {
			if other != kind && !sameShape(s, fine().Shapes[other]) {
				t.Errorf("P0.4: what is written into shape %d of a copy shows in %d", kind, other)
			}
		}
	}
}

// TestBehindTheLength hands lists in whose memory goes on behind their length.
func TestBehindTheLength(t *testing.T) {
	refs := []bool{true, false, true, true}
	shapes := []shape.Shape{{Refs: refs[:2]}, array(true), {Array: true}, object(41)}
	c := fine()
	c.Shapes = shapes[:2]
	taken(t, "odd shapes behind the length", c, api.OK)
	if _, ok := Shape(c, 2); ok {
		t.Error("P0.4: Shape reads behind the length")
	}
	d := Copy(c)
	spoil(d.Shapes)
	s, _ := Shape(c, 0)
	spoilRefs(s.Refs)
	_ = append(s.Refs, false, false)
	if !sameShape(shapes[0], shape.Shape{Refs: []bool{true, false}}) || !refs[2] || !refs[3] || !sameShape(shapes[2], shape.Shape{Array: true}) {
		t.Error("P0.4: what lies behind the length was written")
	}
}

func TestShape(t *testing.T) {
	for i, c := range confs() {
		for kind := range c.Shapes {
			s, ok := Shape(c, kind)
			if !ok || !sameShape(s, confs()[i].Shapes[kind]) {
				t.Errorf("P4.1: conf %d: Shape(%d) answers %v, %v", i, kind, s, ok)
			}
			spoilRefs(s.Refs)
			if again, _ := Shape(c, kind); !sameConf(c, confs()[i]) || !sameShape(again, confs()[i].Shapes[kind]) {
				t.Errorf("P0.4: conf %d: what is written into Shape(%d) shows elsewhere", i, kind)
			}
		}
	}
}

func TestShapeNone(t *testing.T) {
	for i, c := range confs() {
		n := len(c.Shapes)
		for _, kind := range []int{-1, -2, -n, -n - 1, math.MinInt, math.MinInt32, n, n + 1, 2 * n, n + 1<<16, math.MaxInt32, math.MaxInt} {
			if kind >= 0 && kind < n {
				continue
			}
			if s, ok := Shape(c, kind); ok || s.Array || len(s.Refs) > 0 {
				t.Errorf("P4.1: conf %d: Shape(%d) of %d answers %v, %v", i, kind, n, s, ok)
			}
		}
	}
}
