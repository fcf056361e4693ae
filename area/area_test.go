package area

import (
	"math"
	"testing"

	"spolia/api"
	"spolia/conf"
	"spolia/shape"
)

// sized is a conf that may be, with so many of each.
func sized(frags, spine, globals int) conf.Conf {
	return conf.Conf{
		Frags: frags, Spine: spine, Globals: globals, Threads: 2, Locals: 3, Cache: 1, Stack: 9, Low: 1,
		Shapes: []shape.Shape{{Refs: []bool{true, false}}, {Array: true, Refs: []bool{true}}},
	}
}

// fine lists confs that may be: ordinary ones, and each number at its bounds.
func fine() []conf.Conf {
	var all []conf.Conf
	for _, frags := range []int{4, 5, 16, 100, 1023, 1024} {
		for _, spine := range []int{0, 1, 7, 8, 50, 2047, 2048} {
			for _, globals := range []int{0, 1, 3, 7, 8} {
				all = append(all, sized(frags, spine, globals))
			}
		}
	}
	return all
}

// odd lists confs that may not be, each by one thing alone, but for the first.
func odd() []conf.Conf {
	all := []conf.Conf{{}}
	for _, set := range []func(c *conf.Conf){
		func(c *conf.Conf) { c.Frags = 3 },
		func(c *conf.Conf) { c.Frags = 1025 },
		func(c *conf.Conf) { c.Frags = math.MaxInt },
		func(c *conf.Conf) { c.Frags = math.MinInt },
		func(c *conf.Conf) { c.Spine = -1 },
		func(c *conf.Conf) { c.Spine = 2049 },
		func(c *conf.Conf) { c.Spine = math.MaxInt },
		func(c *conf.Conf) { c.Globals = -1 },
		func(c *conf.Conf) { c.Globals = 9 },
		func(c *conf.Conf) { c.Globals = math.MaxInt },
		func(c *conf.Conf) { c.Threads = 0 },
		func(c *conf.Conf) { c.Threads = 17 },
		func(c *conf.Conf) { c.Locals = 0 },
		func(c *conf.Conf) { c.Locals = 9 },
		func(c *conf.Conf) { c.Cache = -1 },
		func(c *conf.Conf) { c.Cache = 9 },
		func(c *conf.Conf) { c.Threads, c.Cache = 13, 8 },
		func(c *conf.Conf) { c.Stack = 0 },
		func(c *conf.Conf) { c.Stack = 257 },
		func(c *conf.Conf) { c.Low = -1 },
		func(c *conf.Conf) { c.Low = 101 },
		func(c *conf.Conf) { c.Shapes = nil },
		func(c *conf.Conf) { c.Shapes = make([]shape.Shape, 9) },
		func(c *conf.Conf) { c.Shapes[1].Refs = nil },
		func(c *conf.Conf) { c.Shapes[0].Refs = make([]bool, 41) },
	} {
		c := sized(100, 50, 3)
		set(&c)
		all = append(all, c)
	}
	return all
}

// farOff lists numbers that are no index of anything, some of which would wrap
// to one that is.
func farOff() []int {
	return []int{
		-1, -2, -8, -100, math.MinInt32, math.MinInt, math.MinInt + 1, math.MinInt / 8,
		1 << 16, math.MaxInt32, math.MaxInt, math.MaxInt - 1, math.MaxInt / 8, math.MaxInt/8 + 1, math.MaxInt/4 + 1, math.MaxInt/2 + 1,
	}
}

// thing is what stands at an address.
type thing struct{ region, frag, word int }

// laid lists all that there is, in the order in which chapter 5 lays it.
func laid(c conf.Conf) []thing {
	var all []thing
	for i := range c.Frags {
		for k := range 8 {
			all = append(all, thing{1, i, k})
		}
	}
	for space := range 2 {
		for k := range c.Spine {
			all = append(all, thing{2 + space, 0, k})
		}
	}
	for g := range c.Globals {
		all = append(all, thing{4, 0, g})
	}
	return all
}

// address asks the call that is the thing's.
func address(c conf.Conf, x thing) (int, api.Errno) {
	switch x.region {
	case 1:
		return Frag(c, x.frag, x.word)
	case 4:
		return Global(c, x.word)
	}
	return Spine(c, x.region-2, x.word)
}

func refused(t *testing.T, what string, a int, e api.Errno) {
	t.Helper()
	if a != 0 || e != api.ErrRange {
		t.Errorf("P5.1: %s: %d, %d, not 0, ErrRange", what, a, e)
	}
}

func nowhere(t *testing.T, c conf.Conf, a int) {
	t.Helper()
	if r, i, k := Of(c, a); r != 0 || i != 0 || k != 0 {
		t.Errorf("P5.2: Of(%d) with %d, %d, %d: %d, %d, %d, not 0, 0, 0", a, c.Frags, c.Spine, c.Globals, r, i, k)
	}
}

func TestNumbers(t *testing.T) {
	if Nowhere != 0 || Frags != 1 || Spine0 != 2 || Spine1 != 3 || Globals != 4 {
		t.Error("P5.1: the regions have other numbers")
	}
	if api.FragWords != 8 || api.MaxFrags != 1024 || api.MaxSpine != 2048 || api.MaxGlobals != 8 || api.ErrRange != 1 {
		t.Fatal("the tests of chapter 5 are written for other limits")
	}
	for _, c := range fine() {
		if conf.Check(c) != api.OK {
			t.Fatal("the tests of chapter 5 are written for other confs")
		}
	}
	for _, c := range odd() {
		if conf.Check(c) == api.OK {
			t.Fatal("the tests of chapter 5 are written for other confs")
		}
	}
}

func TestExample(t *testing.T) {
	if a, e := Frag(sized(4, 0, 0), 2, 3); a != 19 || e != api.OK {
		t.Errorf("P5.1: Frag(c, 2, 3): %d, %d", a, e)
	}
	if r, i, k := Of(sized(4, 0, 0), 19); r != Frags || i != 2 || k != 3 {
		t.Errorf("P5.2: Of(c, 19): %d, %d, %d", r, i, k)
	}
}

// TestEachAddress goes through all things of all confs: P5.3 follows, since the
// addresses are 0, 1, .. up to Words, each of one thing.
func TestEachAddress(t *testing.T) {
	for _, c := range fine() {
		all := laid(c)
		if Words(c) != len(all) {
			t.Errorf("P5.1: Words with %d, %d, %d: %d, not %d", c.Frags, c.Spine, c.Globals, Words(c), len(all))
		}
		for want, x := range all {
			if a, e := address(c, x); a != want || e != api.OK {
				t.Fatalf("P5.1: %v with %d, %d, %d: %d, %d, not %d", x, c.Frags, c.Spine, c.Globals, a, e, want)
			}
			if r, i, k := Of(c, want); r != x.region || i != x.frag || k != x.word {
				t.Fatalf("P5.2: Of(%d) with %d, %d, %d: %d, %d, %d, not %v", want, c.Frags, c.Spine, c.Globals, r, i, k, x)
			}
		}
	}
}

func TestBehindTheEnds(t *testing.T) {
	for _, c := range fine() {
		a, e := Frag(c, c.Frags, 0)
		refused(t, "behind the last fragment", a, e)
		a, e = Frag(c, 0, 8)
		refused(t, "behind the first fragment's last word", a, e)
		a, e = Frag(c, c.Frags-1, 8)
		refused(t, "behind the last fragment's last word", a, e)
		for space := range 2 {
			a, e = Spine(c, space, c.Spine)
			refused(t, "behind the last word of a space", a, e)
		}
		a, e = Spine(c, 2, 0)
		refused(t, "behind the last space", a, e)
		a, e = Global(c, c.Globals)
		refused(t, "behind the last global", a, e)
		nowhere(t, c, -1)
		nowhere(t, c, Words(c))
		nowhere(t, c, Words(c)+1)
	}
}

// TestOneStepBack asks for what would stand in the region ahead, were the sum
// taken alone.
func TestOneStepBack(t *testing.T) {
	c := sized(5, 7, 3)
	a, e := Frag(c, 1, -1)
	refused(t, "a word ahead of its fragment", a, e)
	a, e = Frag(c, -1, 8)
	refused(t, "a fragment ahead of all", a, e)
	a, e = Frag(c, 0, 9)
	refused(t, "a word of the next fragment", a, e)
	a, e = Spine(c, 0, -1)
	refused(t, "a word ahead of space 0", a, e)
	a, e = Spine(c, 1, -1)
	refused(t, "a word ahead of space 1", a, e)
	a, e = Spine(c, 0, 8)
	refused(t, "a word of the next space", a, e)
	a, e = Spine(c, -1, 7)
	refused(t, "a space ahead of all", a, e)
	a, e = Global(c, -1)
	refused(t, "a global ahead of all", a, e)
}

func TestFarOff(t *testing.T) {
	for _, c := range []conf.Conf{sized(4, 0, 0), sized(5, 7, 3), sized(1024, 2048, 8)} {
		for _, n := range farOff() {
			for _, m := range append(farOff(), 0, 1, 7) {
				a, e := Frag(c, n, m)
				refused(t, "Frag of no fragment", a, e)
				a, e = Frag(c, m, n)
				refused(t, "Frag of no word", a, e)
				a, e = Spine(c, n, m)
				refused(t, "Spine of no space", a, e)
				a, e = Spine(c, m, n)
				refused(t, "Spine of no word", a, e)
			}
			a, e := Global(c, n)
			refused(t, "Global of none", a, e)
			nowhere(t, c, n)
		}
	}
}

// TestOddConf: of a conf that may not be there is nothing, whichever error
// Check tells of it.
func TestOddConf(t *testing.T) {
	for _, c := range odd() {
		if Words(c) != 0 {
			t.Errorf("P5.1: Words of a conf that may not be: %d", Words(c))
		}
		for _, n := range append(farOff(), 0, 1, 2, 3, 7, 24, 800, 850, 900, 902) {
			for _, m := range []int{0, 1, n} {
				a, e := Frag(c, m, n)
				refused(t, "Frag of a conf that may not be", a, e)
				a, e = Spine(c, m, n)
				refused(t, "Spine of a conf that may not be", a, e)
			}
			a, e := Global(c, n)
			refused(t, "Global of a conf that may not be", a, e)
			nowhere(t, c, n)
		}
	}
}

// TestNothingChanged: what is handed in stays as it is.
func TestNothingChanged(t *testing.T) {
	c := sized(5, 7, 3)
	for range 2 {
		Words(c)
		Frag(c, 1, 1)
		Spine(c, 1, 1)
		Global(c, 1)
		Of(c, 41)
	}
	if s := c.Shapes; len(s) != 2 || s[0].Array || len(s[0].Refs) != 2 || !s[0].Refs[0] || s[0].Refs[1] || !s[1].Array || len(s[1].Refs) != 1 || !s[1].Refs[0] {
		t.Errorf("P0.4: the shapes were changed: %v", s)
	}
}
