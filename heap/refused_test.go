package heap_test

import (
	"maps"
	"testing"

	"culprit/api"
	"culprit/heap"
	"culprit/value"
)

// Of a nil heap, or one that New did not make: ErrArg, ahead of all else; Size 0; nothing is done.
func TestNoHeaps(t *testing.T) {
	h := heap.New()
	b := made(t, h, value.Num(5))
	all := noBoxes(t, b)
	maps.Copy(all, strays(t, h))
	all["a box"] = b
	all["a cast box"] = cast(t, b, "xi", "x?", 1)
	all["a box that blames"] = coerced(t, b, "x#2ib#-1bi")
	wrong := answer{e: api.ErrArg}
	for name, none := range noHeaps() {
		wantSize(t, "P15.1: "+name, none, 0)
		for kind, v := range all {
			want(t, "P15.2: Make of "+kind+", of "+name, ofMake(none.Make(v)), wrong)
			want(t, "P15.3: Get of "+kind+", of "+name, of(none.Get(v)), wrong)
			for _, x := range []value.Value{nil, value.Num(1), tag(t, value.Truth(true), "b"), b} {
				want(t, "P15.4: Set of "+kind+", of "+name, ofSet(none.Set(v, x)), wrong)
				wantNotSame(t, "P15.5: "+kind+", of "+name, none, v, x, api.ErrArg)
			}
			wantNotSame(t, "P15.5: "+kind+" twice, of "+name, none, v, v, api.ErrArg)
		}
		wantSize(t, "P15.1: "+name+" after all", none, 0)
	}
	want(t, "P15.4: a box that was handed to no heap", of(h.Get(b)), answer{v: value.Num(5)})
	wantSize(t, "P15.1: a heap beside them", h, 1)
}

// P15.3, P15.4, P15.5: value.Cell's error.
func TestNoBoxes(t *testing.T) {
	h := heap.New()
	b := made(t, h, value.Num(5))
	for name, v := range noBoxes(t, b) {
		want(t, "P15.3: Get of "+name, of(h.Get(v)), stuck())
		for _, x := range []value.Value{nil, value.Num(1), tag(t, value.Num(1), "i"), tag(t, value.Truth(true), "b"), b} {
			want(t, "P15.4: Set of "+name, ofSet(h.Set(v, x)), stuck())
		}
		wantNotSame(t, "P15.5: a box and "+name, h, b, v, api.ErrStuck)
		wantNotSame(t, "P15.5: twice "+name, h, v, v, api.ErrStuck)
		wantNotSame(t, "P15.5: none and "+name, h, v, nil, api.ErrStuck)
		wantSize(t, "P15.1: after "+name, h, 1)
	}
	want(t, "P15.4: the box in them", of(h.Get(b)), answer{v: value.Num(5)})
}

// P15.3, P15.4, P15.5: a cell that is none of this heap's: ErrStuck, also where a wrapper would blame.
func TestStrays(t *testing.T) {
	h := heap.New()
	b := made(t, h, value.Num(5))
	all := strays(t, h)
	for name, v := range all {
		want(t, "P15.3: Get of "+name, of(h.Get(v)), stuck())
		for _, x := range []value.Value{nil, value.Num(1), tag(t, value.Num(1), "i"), tag(t, value.Truth(true), "b"), b} {
			want(t, "P15.4: Set of "+name, ofSet(h.Set(v, x)), stuck())
		}
		wantNotSame(t, "P15.5: a box and "+name, h, b, v, api.ErrStuck)
		wantNotSame(t, "P15.5: twice "+name, h, v, v, api.ErrStuck)
		wantNotSame(t, "P15.5: a number and "+name, h, v, value.Num(1), api.ErrStuck)
		wantSize(t, "P15.1: after "+name, h, 1)
	}
	want(t, "P15.4: the heap's own box", of(h.Get(b)), answer{v: value.Num(5)})
}

// Two heaps know nothing of each other, whatever is done to one of them, and though one holds the other's boxes.
func TestTwoHeaps(t *testing.T) {
	g, h := heap.New(), heap.New()
	a, b := made(t, g, value.Num(1)), made(t, h, value.Num(1))
	want(t, "P15.3: the other heap's box", of(g.Get(b)), stuck())
	want(t, "P15.3: the other heap's box", of(h.Get(a)), stuck())
	want(t, "P15.4: the other heap's box", ofSet(g.Set(b, value.Num(2))), stuck())
	want(t, "P15.4: the other heap's box", ofSet(h.Set(a, value.Num(2))), stuck())
	for _, x := range []*heap.Heap{g, h} {
		wantNotSame(t, "P15.5: two heaps' boxes", x, a, b, api.ErrStuck)
		wantSize(t, "P15.1: one of two heaps", x, 1)
	}
	wantNotSame(t, "P15.5: one box, of the other heap", h, a, a, api.ErrStuck)
	wantSame(t, "P15.5: one box, of its heap", g, a, a, true)
	holds := made(t, h, a)
	want(t, "P15.3: a box that holds the other heap's", of(h.Get(holds)), answer{v: a})
	want(t, "P15.3: what it holds is not this heap's", of(h.Get(of(h.Get(holds)).v)), stuck())
	want(t, "P15.3: but the other one's", of(g.Get(of(h.Get(holds)).v)), answer{v: value.Num(1)})
	want(t, "P15.4: and there it is set", ofSet(g.Set(of(h.Get(holds)).v, value.Num(3))), done)
	want(t, "P15.3: and got", of(g.Get(a)), answer{v: value.Num(3)})
	want(t, "P15.3: the box of this heap", of(h.Get(b)), answer{v: value.Num(1)})
	wantSize(t, "P15.1: a heap of one cell", g, 1)
	wantSize(t, "P15.1: a heap of two cells", h, 2)
}

// P15.4: none: ErrStuck, also where a wrapper would blame whatever is set.
func TestSetOfNone(t *testing.T) {
	h := heap.New()
	b := made(t, h, value.Num(5))
	cell, _ := value.Cell(b)
	for name, v := range map[string]value.Value{
		"a box":                 b,
		"a cast box":            cast(t, b, "xi", "x?", 1),
		"a box of two casts":    casts(t, b, "xi", "x?", "xb"),
		"a coerced box":         coerced(t, b, "x!i-1?i"),
		"a box that blames":     coerced(t, b, "x#2ib#-1bi"),
		"a box of both":         cast(t, coerced(t, b, "x!i-1?i"), "x?", "xb", 2),
		"a box of whatever":     coerced(t, b, "x?#-3it"),
		"a box there and back":  coerced(t, b, "x!i-1?i", "x2?i!i"),
		"a box of a box's cell": value.Box(cell),
	} {
		want(t, "P15.4: Set of none to "+name, ofSet(h.Set(v, nil)), stuck())
		want(t, "P15.4: the cell stays: "+name, of(h.Get(b)), answer{v: value.Num(5)})
		wantSize(t, "P15.4: Set of none to "+name, h, 1)
	}
}

// P15.3, P15.4: the error of value.Read, of value.Write: casts that do not fit what is held, what is set.
func TestCastsThatDoNotFit(t *testing.T) {
	h := heap.New()
	b := made(t, h, value.Num(5))
	for name, v := range map[string]value.Value{
		"a cast":              cast(t, b, "x?", "xi", 1),
		"a middle":            coerced(t, b, "x1?i!i"),
		"two casts":           casts(t, b, "x?", "xi", "x?"),
		"a cast and a middle": coerced(t, cast(t, b, "x?", "xb", 1), "x!b-2?b"),
	} {
		want(t, "P15.3: what is held has no tag, through "+name, of(h.Get(v)), stuck())
		wantSize(t, "P15.3: Get through "+name, h, 1)
	}
	for name, v := range map[string]value.Value{
		"a cast":              cast(t, b, "xi", "x?", 1),
		"a middle":            coerced(t, b, "x!i-1?i"),
		"two casts":           casts(t, b, "x?", "xi", "x?"),
		"a cast and a middle": coerced(t, cast(t, b, "xi", "xi", 1), "x!i-2?i"),
	} {
		for _, x := range []value.Value{value.Num(1), value.Text("a"), b, value.Fun("f"), cast(t, value.Fun("f"), ">ii", ">??", 5)} {
			want(t, "P15.4: what is set has no tag, through "+name, ofSet(h.Set(v, x)), stuck())
		}
		want(t, "P15.4: the cell stays", of(h.Get(b)), answer{v: value.Num(5)})
		wantSize(t, "P15.4: Set through "+name, h, 1)
	}
	// What is stuck ends it as well as what is blamed: whichever comes first.
	text := tag(t, value.Text("a"), "t")
	want(t, "P15.4: blamed ahead of stuck", ofSet(h.Set(casts(t, b, "xi", "x?", "xi", "x?"), text)), blame(-3))
	want(t, "P15.4: stuck ahead of blamed", ofSet(h.Set(casts(t, b, "xi", "x?", "xi", "x?"), value.Text("a"))), stuck())
	want(t, "P15.4: stuck behind what goes", ofSet(h.Set(casts(t, b, "x?", "xi"), value.Num(1))), done)
	wantTagged(t, "P15.3: what is held now", of(h.Get(b)), 'i', "1")
}

// What is refused leaves all cells as they were.
func TestWhatIsRefusedLeavesAllCells(t *testing.T) {
	g, h := heap.New(), heap.New()
	held := oneOfEach(t)
	boxes := map[string]value.Value{}
	for name, v := range held {
		boxes[name] = made(t, h, v)
	}
	far := made(t, g, value.Num(1))
	stay := func(what string) {
		t.Helper()
		for name, b := range boxes {
			want(t, what+": the box of "+name, of(h.Get(b)), answer{v: held[name]})
		}
		want(t, what+": the other heap's", of(g.Get(far)), answer{v: value.Num(1)})
		wantSize(t, what, h, len(boxes))
		wantSize(t, what, g, 1)
	}
	stay("ahead of all")
	b := boxes["a number"]
	want(t, "P15.2: Make of none", ofMake(h.Make(nil)), stuck())
	stay("Make of none")
	truth := tag(t, value.Truth(true), "b")
	for name, v := range map[string]value.Value{"a cast": cast(t, b, "xi", "x?", 4), "casts": cast(t, casts(t, b, "xi", "xi", "xi"), "xi", "x?", 4), "a middle": coerced(t, b, "x!i-4?i"), "a failure": coerced(t, b, "x?#-4it")} {
		want(t, "P15.4: Set through "+name, ofSet(h.Set(v, truth)), blame(-4))
		stay("a Set that blames, through " + name)
	}
	for name, v := range noBoxes(t, b) {
		want(t, "P15.4: Set of "+name, ofSet(h.Set(v, value.Num(9))), stuck())
		stay("Set of " + name)
		want(t, "P15.3: Get of "+name, of(h.Get(v)), stuck())
		stay("Get of " + name)
	}
	for name, v := range strays(t, h) {
		want(t, "P15.4: Set of "+name, ofSet(h.Set(v, value.Num(9))), stuck())
		wantNotSame(t, "P15.5: Same of "+name, h, b, v, api.ErrStuck)
		stay("Set of " + name)
	}
	want(t, "P15.4: Set of the other heap's", ofSet(h.Set(far, value.Num(9))), stuck())
	want(t, "P15.4: Set of this heap's, by the other one", ofSet(g.Set(b, value.Num(9))), stuck())
	stay("Set of other heaps' boxes")
	for _, v := range boxes {
		want(t, "P15.4: Set of none", ofSet(h.Set(v, nil)), stuck())
	}
	stay("Set of none")
	want(t, "P15.3: a Get that blames", of(h.Get(coerced(t, b, "x#6it!i"))), blame(6))
	want(t, "P15.3: a Get that is stuck", of(h.Get(cast(t, b, "x?", "xi", 6))), stuck())
	stay("Gets that are refused")
}
