package heap_test

import (
	"testing"

	"culprit/heap"
	"culprit/value"
)

// P15.3, P15.4: through one cast, whichever way: what is got is cast from the box's type to the wrapper's, with the label; what is set the other way, with the label turned round.
func TestThroughOneCast(t *testing.T) {
	for _, label := range []int64{1, 4, -4, 1<<31 - 1, 1 - 1<<31} {
		h := heap.New()
		b := made(t, h, value.Num(5))
		c := cast(t, b, "xi", "x?", label)
		wantTagged(t, "P15.3: Get, from i to ?", of(h.Get(c)), 'i', "5")
		want(t, "P15.4: Set, from ? to i, of a truth", ofSet(h.Set(c, tag(t, value.Truth(true), "b"))), blame(-label))
		want(t, "P15.4: the cell stays", of(h.Get(b)), answer{v: value.Num(5)})
		want(t, "P15.4: Set, from ? to i, of a number", ofSet(h.Set(c, tag(t, value.Num(7), "i"))), done)
		want(t, "P15.4: the cell holds no tag", of(h.Get(b)), answer{v: value.Num(7)})
		u := made(t, h, tag(t, value.Text("a"), "t"))
		d := cast(t, u, "x?", "xi", label)
		want(t, "P15.3: Get, from ? to i, of a text", of(h.Get(d)), blame(label))
		wantTagged(t, "P15.3: the cell stays", of(h.Get(u)), 't', `"a"`)
		want(t, "P15.4: Set, from i to ?", ofSet(h.Set(d, value.Num(8))), done)
		wantTagged(t, "P15.4: the cell holds a tagged one", of(h.Get(u)), 'i', "8")
		want(t, "P15.3: Get, from ? to i, of a number", of(h.Get(d)), answer{v: value.Num(8)})
		wantSize(t, "P15.4", h, 2)
	}
}

// P15.3, P15.4: through one middle: what is got by the first kid, what is set by the second one, whatever they are.
func TestThroughOneMiddle(t *testing.T) {
	number, text, truth := tag(t, value.Num(1), "i"), tag(t, value.Text("a"), "t"), tag(t, value.Truth(true), "b")
	for _, row := range []struct {
		text          string
		held          value.Value
		got           string
		set           value.Value
		answer, after string
	}{
		{"x!i-5?i", value.Num(1), "1", number, "none", "1"},
		{"x!i-5?i", value.Num(1), "1", truth, "blame -5", "1"},
		{"x!i-5?i", value.Num(2), "2", value.Num(1), "error 32", "2"},
		{"x6?i!i", number, "1", value.Num(7), "none", "7"},
		{"x6?i!i", text, "blame 6", value.Num(7), "none", "7"},
		{"x6?i!i", value.Num(3), "error 32", value.Num(7), "none", "7"},
		{"x#2ib#-1bi", value.Num(1), "blame 2", value.Truth(true), "blame -1", "1"},
		{"xi#-1bi", value.Num(1), "1", value.Truth(true), "blame -1", "1"},
		{"x#2ibi", value.Num(1), "blame 2", value.Num(7), "none", "7"},
		{"xl!il-3?i", value.Cons(value.Num(1), value.Nil()), "cons 1 empty", value.Cons(truth, value.Nil()), "none", "cons blame -3 empty"},
		{"x3?l?!l?", tag(t, value.Nil(), "l?"), "empty", value.Cons(truth, value.Nil()), "none", "cons truth 1 empty"},
	} {
		h := heap.New()
		b := made(t, h, row.held)
		c := coerced(t, b, row.text)
		wantTold(t, "P15.3: Get through "+row.text, of(h.Get(c)), row.got)
		wantTold(t, "P15.4: Set through "+row.text, ofSet(h.Set(c, row.set)), row.answer)
		wantTold(t, "P15.4: what is held after Set through "+row.text, of(h.Get(b)), row.after)
		wantSize(t, "P15.4: Set through "+row.text, h, 1)
	}
}

// ways: casts one by one, their coercions one by one, and those as one.
var ways = map[string]func(*testing.T, value.Value, ...string) value.Value{"casts": casts, "coercions": chained, "one coercion": merged}

// P15.3, P15.4: more wrappers: what is got goes the innermost first, what is set the outermost first; the first blame ends it.
func TestThroughSeveral(t *testing.T) {
	number, text := value.Num(1), value.Text("a")
	tagged := tag(t, text, "t")
	for way, by := range ways {
		get := func(held value.Value, want string, types ...string) {
			t.Helper()
			h := heap.New()
			b := made(t, h, held)
			wantTold(t, "P15.3: Get by "+way, of(h.Get(by(t, b, types...))), want)
			wantSame(t, "P15.5: by "+way, h, b, by(t, b, types...), true)
		}
		set := func(held, x value.Value, want, after string, types ...string) {
			t.Helper()
			h := heap.New()
			b := made(t, h, held)
			wantTold(t, "P15.4: Set by "+way, ofSet(h.Set(by(t, b, types...), x)), want)
			wantTold(t, "P15.4: what is held after Set by "+way, of(h.Get(b)), after)
		}
		get(number, "1", "xi", "x?", "xi")
		get(number, "blame 2", "xi", "x?", "xb")
		get(number, "blame 2", "xi", "x?", "xb", "x?", "xt")
		get(number, "blame 3", "xi", "x?", "x?", "xb")
		get(tagged, "blame 1", "x?", "xi", "x?", "xb")
		get(tagged, `"a"`, "x?", "xt", "x?", "xt")
		get(number, "1", "xi", "?", "xi")
		get(number, "blame 3", "xi", "x?", "?", "xb")
		get(value.Pair(number, text), "pair 1 blame 2", "x,it", "x,??", "x,ii")
		get(value.Pair(number, text), "pair blame 3 blame 2", "x,it", "x,??", "x,?i", "x,bi")
		set(number, value.Num(7), "none", "7", "xi", "x?", "xi")
		set(number, value.Truth(true), "blame -1", "1", "xi", "x?", "xb")
		set(number, text, "blame -1", "1", "xi", "x?", "x?", "xt")
		set(number, tagged, "blame -3", "1", "xi", "x?", "xi", "x?")
		set(number, tagged, "blame -3", "1", "xi", "x?", "xb", "x?")
		set(number, value.Truth(true), "blame -1", "1", "xi", "x?", "xb", "x?", "xb")
		set(tagged, value.Num(7), "none", "7", "x?", "xi", "x?", "xi")
		set(tagged, tag(t, value.Num(7), "i"), "none", "7", "x?", "xi", "x?")
		set(tagged, tag(t, value.Truth(true), "b"), "blame -2", `"a"`, "x?", "xi", "x?")
		set(number, value.Truth(true), "blame -1", "1", "xi", "?", "x?", "xb")
		set(value.Pair(number, text), value.Pair(text, text), "none", `pair blame -1 "a"`, "x,it", "x,?t", "x,tt")
	}
}

// P15.3, P15.4: casts and middles by turns.
func TestThroughCastsAndMiddles(t *testing.T) {
	h := heap.New()
	b := made(t, h, value.Num(1))
	inner := cast(t, coerced(t, b, "x#5ib#-6bi"), "xb", "x?", 7)
	want(t, "P15.3: the innermost first", of(h.Get(inner)), blame(5))
	want(t, "P15.4: the outermost first", ofSet(h.Set(inner, tag(t, value.Text("a"), "t"))), blame(-7))
	want(t, "P15.4: the inner one then", ofSet(h.Set(inner, tag(t, value.Truth(true), "b"))), blame(-6))
	outer := coerced(t, cast(t, b, "xi", "x?", 1), "x2?b!b", "x!b-3?b")
	want(t, "P15.3: the innermost first", of(h.Get(outer)), blame(2))
	want(t, "P15.4: the outermost first", ofSet(h.Set(outer, tag(t, value.Text("a"), "t"))), blame(-3))
	want(t, "P15.4: the inner one then", ofSet(h.Set(outer, tag(t, value.Truth(true), "b"))), blame(-1))
	four := coerced(t, cast(t, coerced(t, cast(t, b, "xi", "x?", 1), "x2?i!i"), "xi", "x?", 3), "x4?i!i")
	want(t, "P15.3: through four", of(h.Get(four)), answer{v: value.Num(1)})
	want(t, "P15.4: through four", ofSet(h.Set(four, value.Num(9))), done)
	for _, v := range []value.Value{b, four} {
		want(t, "P15.3: what was set", of(h.Get(v)), answer{v: value.Num(9)})
	}
	wantSize(t, "P15.4", h, 1)
}

// What is set through one is got through each.
func TestOneCellThroughAll(t *testing.T) {
	h := heap.New()
	b := made(t, h, value.Num(0))
	known := map[string]value.Value{"bare": b, "casts": casts(t, b, "xi", "x?", "xi"), "coercions": chained(t, b, "xi", "x?", "xi"), "both": coerced(t, cast(t, b, "xi", "x?", 1), "x2?i!i")}
	unknown := map[string]value.Value{"a cast": cast(t, b, "xi", "x?", 1), "a middle": coerced(t, b, "x!i-1?i"), "a cast of a middle": cast(t, chained(t, b, "xi", "x?", "xi"), "xi", "x?", 3), "three casts": casts(t, b, "xi", "x?", "xi", "x?")}
	n := int64(0)
	all := func(what string) {
		t.Helper()
		for name, v := range known {
			want(t, "P15.3: "+what+", got through "+name, of(h.Get(v)), answer{v: value.Num(n)})
		}
		for name, v := range unknown {
			wantTagged(t, "P15.3: "+what+", got through "+name, of(h.Get(v)), 'i', answer{v: value.Num(n)}.told())
		}
		wantSize(t, what, h, 1)
	}
	all("what was made")
	for name, v := range known {
		n++
		want(t, "P15.4: Set through "+name, ofSet(h.Set(v, value.Num(n))), done)
		all("set through " + name)
	}
	for name, v := range unknown {
		n++
		want(t, "P15.4: Set through "+name, ofSet(h.Set(v, tag(t, value.Num(n), "i"))), done)
		all("set through " + name)
		want(t, "P15.4: Set of a text through "+name, ofSet(h.Set(v, tag(t, value.Text("a"), "t"))), blame(map[string]int64{"a cast": -1, "a middle": -1, "a cast of a middle": -3, "three casts": -3}[name]))
		all("refused through " + name)
	}
}

// What a cell holds is of the type by which it was made: functions, pairs, lists and boxes that are set come to it under their own casts.
func TestWhatIsHeldIsOfItsType(t *testing.T) {
	for way, by := range ways {
		h := heap.New()
		f := made(t, h, value.Fun("f"))
		want(t, "P15.4: a function", ofSet(h.Set(by(t, f, "x>ii", "x>??"), value.Fun("g"))), done)
		g := of(h.Get(f))
		want(t, "P15.4: who gave g gave its result, by "+way, of(value.Res(g.v, tag(t, value.Text("a"), "t"))), blame(-1))
		wantTagged(t, "P15.4: g's argument, by "+way, of(value.Arg(g.v, value.Num(1))), 'i', "1")
		out := of(h.Get(by(t, f, "x>ii", "x>??", "x>bi")))
		want(t, "P15.3: there and back again, by "+way, of(value.Arg(out.v, value.Truth(true))), blame(-1))
		p := made(t, h, value.Pair(value.Num(1), value.Nil()))
		v := value.Pair(tag(t, value.Truth(true), "b"), cast(t, value.Cons(value.Text("a"), value.Nil()), "lt", "l?", 9))
		want(t, "P15.4: a pair", ofSet(h.Set(by(t, p, "x,ili", "x,?l?"), v)), done)
		wantTold(t, "P15.4: what is held of a pair, by "+way, of(h.Get(p)), "pair blame -1 cons blame -1 empty")
		inner := made(t, h, value.Num(1))
		outer := made(t, h, inner)
		boxes := by(t, outer, "xxi", "xx?", "xxb")
		read := of(h.Get(boxes))
		want(t, "P15.3: a box of a box, read, by "+way, of(h.Get(read.v)), blame(2))
		want(t, "P15.4: a box of a box, set, by "+way, ofSet(h.Set(read.v, value.Truth(true))), blame(-1))
		wantSame(t, "P15.5: a box of a box", h, read.v, inner, true)
		truth := made(t, h, value.Truth(true))
		want(t, "P15.4: a box in a box, by "+way, ofSet(h.Set(boxes, truth)), done)
		held := of(h.Get(outer))
		wantSame(t, "P15.5: a box that was set", h, held.v, truth, true)
		want(t, "P15.3: what is held of a box that was set, by "+way, of(h.Get(held.v)), blame(-1))
		want(t, "P15.4: set into it, by "+way, ofSet(h.Set(held.v, value.Num(1))), blame(2))
		wantSize(t, "P15.4: by "+way, h, 5)
	}
}

// Very many wrappers: all are gone through, none too deep for a call.
func TestThroughManyWrappers(t *testing.T) {
	const many = 1 << 16
	h := heap.New()
	b := made(t, h, value.Num(1))
	c, d := b, b
	for range many {
		c = cast(t, cast(t, c, "xi", "x?", 1), "x?", "xi", 2)
		d = cast(t, coerced(t, d, "x!i-1?i"), "x?", "xi", 2)
	}
	for _, v := range []value.Value{c, d} {
		want(t, "P15.4: through many", ofSet(h.Set(v, value.Num(7))), done)
		want(t, "P15.3: through many", of(h.Get(v)), answer{v: value.Num(7)})
		wantSame(t, "P15.5: under many", h, v, b, true)
	}
	want(t, "P15.4: through many, and one more", ofSet(h.Set(cast(t, c, "xi", "x?", 3), tag(t, value.Text("a"), "t"))), blame(-3))
	wantSame(t, "P15.5: both under many", h, c, d, true)
	wantSize(t, "P15.4: through many", h, 1)
}
