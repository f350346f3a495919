package heap_test

import (
	"math"
	"testing"

	"culprit/api"
	"culprit/heap"
	"culprit/value"
)

// P15.1: a new heap has no cells; each call makes another one.
func TestNew(t *testing.T) {
	a, b := heap.New(), heap.New()
	if a == nil || b == nil || a == b {
		t.Fatal("P15.1: New:", a, b)
	}
	wantSize(t, "P15.1: a new heap", a, 0)
	made(t, a, value.Num(1))
	made(t, a, value.Num(1))
	made(t, b, value.Num(1))
	wantSize(t, "P15.1: a heap of two cells", a, 2)
	wantSize(t, "P15.1: a heap of one cell", b, 1)
	wantSize(t, "P15.1: a new heap", heap.New(), 0)
}

// P15.1: each box that is made has a cell more, nothing else has.
func TestSizeIsHowManyWereMade(t *testing.T) {
	h := heap.New()
	const many = 1 << 16
	var first, last value.Value
	for i := range many {
		last = made(t, h, value.Num(int64(i)))
		if i == 0 {
			first = last
		}
		if n := h.Size(); n != i+1 {
			t.Fatalf("P15.1: %d cells, when %d were made", n, i+1)
		}
	}
	want(t, "P15.3: the first of many", of(h.Get(first)), answer{v: value.Num(0)})
	want(t, "P15.3: the last of many", of(h.Get(last)), answer{v: value.Num(many - 1)})
	wantSame(t, "P15.5: the first and the last of many", h, first, last, false)
	wantSize(t, "P15.1: when they were asked", h, many)
}

// oneOfEach: a value of each kind: bare ones, tagged, wrapped.
func oneOfEach(t *testing.T) map[string]value.Value {
	f, l, p, b := value.Fun("f"), value.Cons(value.Num(1), value.Nil()), value.Pair(value.Num(1), value.Text("a")), value.Box("b")
	return map[string]value.Value{
		"a number":             value.Num(5),
		"the least number":     value.Num(math.MinInt64),
		"nought":               value.Num(0),
		"a text":               value.Text("a"),
		"the empty text":       value.Text(""),
		"true":                 value.Truth(true),
		"false":                value.Truth(false),
		"a function":           f,
		"a box":                b,
		"a pair":               p,
		"a pair of none":       value.Pair(nil, nil),
		"the empty list":       value.Nil(),
		"a list":               l,
		"a list of none":       value.Cons(nil, nil),
		"a tagged number":      tag(t, value.Num(5), "i"),
		"a tagged function":    tag(t, f, ">??"),
		"a tagged wrapped box": tag(t, cast(t, b, "xi", "x?", 1), "x?"),
		"a cast function":      cast(t, f, ">ii", ">??", 1),
		"a cast box":           cast(t, b, "xi", "x?", 1),
		"a cast pair":          cast(t, p, ",it", ",??", 1),
		"a cast list":          cast(t, l, "li", "l?", 1),
		"a coerced function":   coerced(t, f, ">-5?i!i"),
		"a coerced box":        coerced(t, b, "x!i-1?i"),
		"a cast, coerced list": coerced(t, cast(t, l, "li", "l?", 1), "l5?b"),
	}
}

// P15.2, P15.3: of each kind of value a box is made, that holds it just as it is.
func TestMakeAndGet(t *testing.T) {
	h := heap.New()
	size := 0
	for name, v := range oneOfEach(t) {
		b := made(t, h, v)
		size++
		wantSize(t, "P15.2: Make of "+name, h, size)
		wantTold(t, "P15.2: Make of "+name, answer{v: b}, "box")
		if c, in, ok := value.Wrap(b); ok || c != nil || in != nil {
			t.Errorf("P15.2: Make of %s is wrapped: %v", name, c)
		}
		if tagOf(b) != 0 {
			t.Errorf("P15.2: Make of %s is tagged", name)
		}
		if cell, e := value.Cell(b); cell == nil || e != api.OK {
			t.Errorf("P15.2: Make of %s has no cell: %d", name, e)
		}
		for range 3 {
			want(t, "P15.3: Get of "+name, of(h.Get(b)), answer{v: v})
		}
		wantSize(t, "P15.3: Get of "+name, h, size)
		again := made(t, h, v)
		size++
		wantSame(t, "P15.2: two boxes of "+name, h, b, again, false)
	}
}

// P15.2: none: ErrStuck, and no cell is made.
func TestMakeOfNone(t *testing.T) {
	h := heap.New()
	want(t, "P15.2: Make of none", ofMake(h.Make(nil)), stuck())
	wantSize(t, "P15.2: Make of none", h, 0)
	b := made(t, h, value.Num(1))
	want(t, "P15.2: Make of none", ofMake(h.Make(nil)), stuck())
	wantSize(t, "P15.2: Make of none", h, 1)
	want(t, "P15.2: a box made ahead of it", of(h.Get(b)), answer{v: value.Num(1)})
}

// P15.4: of each kind of value: it is what is got then, and nothing else is.
func TestSetAndGet(t *testing.T) {
	h := heap.New()
	a, b := made(t, h, value.Num(1)), made(t, h, value.Num(2))
	for name, v := range oneOfEach(t) {
		want(t, "P15.4: Set of "+name, ofSet(h.Set(a, v)), done)
		want(t, "P15.4: what was set: "+name, of(h.Get(a)), answer{v: v})
		want(t, "P15.4: another box", of(h.Get(b)), answer{v: value.Num(2)})
		wantSize(t, "P15.4: Set of "+name, h, 2)
		wantSame(t, "P15.5: after Set of "+name, h, a, a, true)
		wantSame(t, "P15.5: after Set of "+name, h, a, b, false)
	}
	want(t, "P15.4: Set of the other box", ofSet(h.Set(b, value.Text("b"))), done)
	want(t, "P15.4: what was set", of(h.Get(b)), answer{v: value.Text("b")})
	wantSame(t, "P15.5: two boxes", h, a, b, false)
}

// P15.5: boxes that hold alike are not the same; a box of the same cell is, whoever made it.
func TestSame(t *testing.T) {
	h := heap.New()
	v := value.Pair(value.Num(1), value.Num(2))
	a, b := made(t, h, v), made(t, h, v)
	wantSame(t, "P15.5: one box", h, a, a, true)
	wantSame(t, "P15.5: two boxes that hold one value", h, a, b, false)
	cell, _ := value.Cell(a)
	again := value.Box(cell)
	wantSame(t, "P15.5: a box of the same cell", h, a, again, true)
	wantSame(t, "P15.5: a box of another cell", h, b, again, false)
	want(t, "P15.4: Set of a box of the same cell", ofSet(h.Set(again, value.Num(7))), done)
	want(t, "P15.3: one cell", of(h.Get(a)), answer{v: value.Num(7)})
	wantSize(t, "P15.5: Same", h, 2)
}

// P15.5: one box under different casts and middles, and both; two boxes under the same ones.
func TestSameUnderWrappers(t *testing.T) {
	h := heap.New()
	a, b := made(t, h, value.Num(1)), made(t, h, value.Num(1))
	under := func(b value.Value) map[string]value.Value {
		return map[string]value.Value{
			"bare":            b,
			"a cast":          cast(t, b, "xi", "x?", 1),
			"another cast":    cast(t, b, "x?", "xb", 5),
			"two casts":       casts(t, b, "xi", "x?", "xi"),
			"casts that fail": casts(t, b, "xi", "x?", "xb"),
			"a middle":        coerced(t, b, "x!i-1?i"),
			"another middle":  coerced(t, b, "x#2ib#-1bi"),
			"both":            coerced(t, cast(t, b, "xi", "x?", 1), "x2?i!i"),
			"both turned":     cast(t, coerced(t, b, "x!i-1?i"), "x?", "xi", 2),
			"there and back":  coerced(t, b, "x!i-1?i", "x2?i!i"),
		}
	}
	theirs := under(b)
	for _, first := range sortedNames(under(a)) {
		for _, second := range sortedNames(theirs) {
			what := "P15.5: under " + first + ", and under " + second
			wantSame(t, what, h, under(a)[first], under(a)[second], true)
			wantSame(t, what+", of another box", h, under(a)[first], theirs[second], false)
		}
	}
	wantSize(t, "P15.5: Same", h, 2)
	want(t, "P15.5: what the cell holds", of(h.Get(a)), answer{v: value.Num(1)})
}

// The cell is one: a box in a box, a box in itself, a box in a list.
func TestBoxesInBoxes(t *testing.T) {
	h := heap.New()
	inner := made(t, h, value.Num(1))
	outer := made(t, h, inner)
	want(t, "P15.3: a box in a box", of(h.Get(outer)), answer{v: inner})
	want(t, "P15.4: the inner one", ofSet(h.Set(of(h.Get(outer)).v, value.Num(2))), done)
	want(t, "P15.3: the inner one", of(h.Get(inner)), answer{v: value.Num(2)})
	want(t, "P15.4: a box in itself", ofSet(h.Set(outer, outer)), done)
	want(t, "P15.3: a box in itself", of(h.Get(outer)), answer{v: outer})
	wantTold(t, "P15.3: a box in itself", of(h.Get(outer)), "box")
	wantSame(t, "P15.5: a box in itself", h, of(h.Get(outer)).v, outer, true)
	l := value.Cons(inner, value.Cons(outer, value.Nil()))
	first := of(value.Head(cast(t, l, "lxi", "lx?", 4)))
	wantTagged(t, "P15.3: a box of a cast list", of(h.Get(first.v)), 'i', "2")
	want(t, "P15.4: a box of a cast list", ofSet(h.Set(first.v, tag(t, value.Text("a"), "t"))), blame(-4))
	wantSame(t, "P15.5: a box of a cast list", h, first.v, inner, true)
	wantSize(t, "P15.5: boxes in boxes", h, 2)
}

// The examples of the chapter.
func TestExamples(t *testing.T) {
	h := heap.New()
	b := made(t, h, value.Num(5))
	want(t, "P15.3: Get(b)", of(h.Get(b)), answer{v: value.Num(5)})
	wantSize(t, "P15.1", h, 1)
	c := cast(t, b, "xi", "x?", 1)
	wantTagged(t, "P15.3: Get(c)", of(h.Get(c)), 'i', "5")
	want(t, "P15.4: Set(c, Truth)", ofSet(h.Set(c, tag(t, value.Truth(true), "b"))), blame(-1))
	want(t, "P15.4: Set(c, Num 7)", ofSet(h.Set(c, tag(t, value.Num(7), "i"))), done)
	want(t, "P15.3: Get(b)", of(h.Get(b)), answer{v: value.Num(7)})
	wantSame(t, "P15.5: Same(b, c)", h, b, c, true)
	wantSame(t, "P15.5: Same(b, another)", h, b, made(t, h, value.Num(5)), false)
	want(t, "P15.3: Get(Num 1)", of(h.Get(value.Num(1))), stuck())
	want(t, "P15.3: Get(value.Box(1))", of(h.Get(value.Box(1))), stuck())
}
