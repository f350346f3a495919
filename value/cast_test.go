package value_test

import (
	"math"
	"strings"
	"testing"

	"culprit/api"
	"culprit/coerce"
	"culprit/value"
)

// P14.1: each maker, of what is handed in, whatever it is.
func TestMakers(t *testing.T) {
	for _, n := range []int64{0, 1, -1, 5, math.MaxInt64, math.MinInt64} {
		if got, e := value.AsNum(value.Num(n)); got != n || e != api.OK {
			t.Errorf("P14.1: Num(%d) is %d, %d", n, got, e)
		}
	}
	for _, s := range []string{"", "a", "\x00", "\xff\xfe", "é", strings.Repeat("long", api.MaxBytes)} {
		if got, e := value.AsText(value.Text(s)); got != s || e != api.OK {
			t.Errorf("P14.1: Text(%.20q) is %.20q, %d", s, got, e)
		}
	}
	for _, b := range []bool{false, true} {
		if got, e := value.AsTruth(value.Truth(b)); got != b || e != api.OK {
			t.Errorf("P14.1: Truth(%v) is %v, %d", b, got, e)
		}
	}
	pointer := new(int)
	for _, x := range []any{nil, 1, "code", 2.5, pointer, struct{ a int }{3}, value.Num(1), api.OK} {
		if got, e := value.Code(value.Fun(x)); got != x || e != api.OK {
			t.Errorf("P14.1: Fun(%v) has the code %v, %d", x, got, e)
		}
		if got, e := value.Cell(value.Box(x)); got != x || e != api.OK {
			t.Errorf("P14.1: Box(%v) has the cell %v, %d", x, got, e)
		}
	}
	// What cannot be held against another is handed out as it is, too.
	code, _ := value.Code(value.Fun(func() int { return 7 }))
	if f, ok := code.(func() int); !ok || f() != 7 {
		t.Error("P14.1: Fun of a function")
	}
	cell, _ := value.Cell(value.Box([]int{1, 2}))
	if l, ok := cell.([]int); !ok || len(l) != 2 {
		t.Error("P14.1: Box of a list")
	}
	if none, e := value.IsEmpty(value.Nil()); !none || e != api.OK {
		t.Error("P14.1: Nil is not empty", none, e)
	}
	for name, v := range kinds(t) {
		if none, e := value.IsEmpty(value.Cons(v, v)); none || e != api.OK {
			t.Errorf("P14.1: Cons of %s is empty: %v, %d", name, none, e)
		}
		s := told(value.Seen(v, 8))
		if got := told(value.Seen(value.Pair(v, value.Num(3)), 9)); got != "pair "+s+" 3" {
			t.Errorf("P14.1: Pair of %s is seen as %s", name, got)
		}
		if got := told(value.Seen(value.Cons(value.Num(3), v), 9)); got != "cons 3 "+s {
			t.Errorf("P14.1: Cons of %s as the rest is seen as %s", name, got)
		}
	}
	for _, v := range []value.Value{value.Pair(nil, nil), value.Cons(nil, nil)} {
		if v == nil {
			t.Error("P14.1: of parts that are none: no value")
		}
	}
}

// The table of the chapter.
func TestExamples(t *testing.T) {
	five := cast(t, value.Num(5), "i", "?", 1)
	wantValue(t, "Num 5", of(value.Num(5), 0, api.OK), "5")
	wantValue(t, "Num 5, tagged", of(five, 0, api.OK), "5")
	wantValue(t, "and back", of(value.Cast(five, "?", "i", 2)), "5")
	wantBlame(t, "as a truth", of(value.Cast(five, "?", "b", 3)), 3)
	two := casts(t, value.Pair(value.Num(1), value.Text("a")), ",it", ",??", ",ib")
	wantValue(t, "a pair", of(two, 0, api.OK), "pair 1 blame:2")
	if s := told(value.Seen(value.Cons(value.Num(1), value.Nil()), 1)); s != "cons deep deep" {
		t.Errorf("a list at depth 1: %s", s)
	}
	wantStuck(t, "First(Num 1)", of(value.First(value.Num(1))))
	wantError(t, "Head(Nil())", of(value.Head(value.Nil())), api.ErrGone)
	wantStuck(t, "Cast(Num 1, ?, i, 1)", of(value.Cast(value.Num(1), "?", "i", 1)))
	f := cast(t, value.Fun("f"), ">ii", ">??", 1)
	wantValue(t, "Arg of a number", of(value.Arg(f, tag(t, value.Num(1), "i"))), "1")
	wantBlame(t, "Arg of a truth", of(value.Arg(f, tag(t, value.Truth(true), "b"))), -1)
	one := of(value.Res(f, value.Num(1)))
	wantValue(t, "Res", one, "1")
	wantValue(t, "Res is tagged", of(value.Cast(one.v, "?", "i", 9)), "1")
}

// tagOf answers the head of a tagged value, 0 of one that is not.
func tagOf(t *testing.T, v value.Value) byte {
	t.Helper()
	var found byte
	for _, head := range []byte(heads) {
		switch got := of(value.Cast(v, "?", groundOf(head), 77)); {
		case got.e == api.OK && found == 0:
			found = head
		case got.e == api.OK:
			t.Fatalf("P14.2: a value is tagged both %c and %c", found, head)
		case got.e == api.ErrBlame:
			wantBlame(t, "P14.2: a tag that is not looked for", got, 77)
		default:
			wantStuck(t, "P14.2: from ?, of what is not tagged", got)
		}
	}
	return found
}

// Row 1: from is to.
func TestCastToItself(t *testing.T) {
	for name, v := range kinds(t) {
		for _, s := range append(allTypes(3), strings.Repeat("x", 63)+"i", strings.Repeat("l", 63)+"?") {
			if got := of(value.Cast(v, s, s, 5)); got != (answer{v, 0, api.OK}) {
				t.Errorf("P14.2: Cast of %s from %s to itself = %v, %d, %d", name, s, got.v, got.label, got.e)
			}
		}
	}
}

// Row 2: to is ?.
func TestCastToUnknown(t *testing.T) {
	for name, v := range kinds(t) {
		for _, from := range allTypes(3) {
			if from == "?" {
				continue
			}
			got := cast(t, v, from, "?", 5)
			if head := tagOf(t, got); head != from[0] {
				t.Errorf("P14.2: %s, cast from %s to ?, is tagged %q", name, from, head)
			}
			in := cast(t, got, "?", loose(from), 6)
			if from == loose(from) {
				if in != v {
					t.Errorf("P14.2: %s, cast from its ground %s to ?, is not what is in it", name, from)
				}
				continue
			}
			// What is in it is cast to the ground first, with the label.
			if _, _, merged := value.Wrap(in); merged || tagOf(t, in) != 0 || in == v {
				t.Errorf("P14.2: %s, cast from %s to ?, is not wrapped with a cast in its tag", name, from)
			}
		}
	}
	f := cast(t, value.Fun("f"), ">ii", "?", 5)
	wantBlame(t, "P14.2: the label stands in the tagged function's wrapper", of(value.Arg(cast(t, f, "?", ">??", 6), tag(t, value.Truth(true), "b"))), -5)
	wantBlame(t, "P14.2: the label is that of the cast", of(value.Arg(cast(t, cast(t, value.Fun("f"), ">ii", "?", -8), "?", ">??", 6), tag(t, value.Truth(true), "b"))), 8)
}

// Row 3: from is ?.
func TestCastFromUnknown(t *testing.T) {
	for name, v := range kinds(t) {
		if strings.HasSuffix(name, "tagged") {
			continue
		}
		for _, to := range allTypes(3) {
			if to == "?" {
				continue
			}
			wantStuck(t, "P14.2: Cast from ? to "+to+" of "+name, of(value.Cast(v, "?", to, 5)))
			for _, head := range []byte(heads) {
				got := of(value.Cast(tag(t, v, groundOf(head)), "?", to, 5))
				switch {
				case head != to[0]:
					wantBlame(t, "P14.2: Cast of one tagged "+string(rune(head))+" to "+to, got, 5)
				case to == loose(to):
					if got != (answer{v, 0, api.OK}) {
						t.Errorf("P14.2: %s, tagged %c, cast to %s = %v, %d, %d", name, head, to, got.v, got.label, got.e)
					}
				case got.e != api.OK || got.v == nil || got.v == v:
					t.Errorf("P14.2: %s, tagged %c, cast to %s = %v, %d, %d; want it wrapped", name, head, to, got.v, got.label, got.e)
				}
			}
		}
	}
	// It is cast from the ground to the type, with this label.
	f := cast(t, tag(t, value.Fun("f"), ">??"), "?", ">ib", 5)
	wantBlame(t, "P14.2: the result", of(value.Res(f, tag(t, value.Num(1), "i"))), 5)
	wantValue(t, "P14.2: the argument", of(value.Arg(f, value.Num(1))), "1")
	// A tag in a tag: the outer one is looked at.
	wantBlame(t, "P14.2: a tag in a tag", of(value.Cast(tag(t, tag(t, value.Num(1), "i"), "b"), "?", "i", 4)), 4)
	wantValue(t, "P14.2: a tag in a tag", of(value.Cast(tag(t, tag(t, value.Num(1), "i"), "b"), "?", "b", 4)), "1")
	// One that is wrapped is not tagged, whatever is under its wrappers.
	wantStuck(t, "P14.2: a tag in a cast", of(value.Cast(cast(t, tag(t, value.Nil(), "l?"), "li", "l?", 1), "?", "l?", 4)))
	wantStuck(t, "P14.2: a tag in a middle", of(value.Cast(coerced(t, tag(t, value.Nil(), "l?"), "l!i"), "?", "l?", 4)))
}

// Row 4: one head.
func TestCastWraps(t *testing.T) {
	for name, v := range kinds(t) {
		for _, from := range allTypes(3) {
			for _, to := range allTypes(3) {
				if from == to || from == "?" || to == "?" || !consistent(from, to) {
					continue
				}
				got := cast(t, v, from, to, 5)
				if c, in, ok := value.Wrap(got); c != nil || in != nil || ok {
					t.Errorf("P14.2: %s, cast from %s to %s, is wrapped with the middle %s", name, from, to, coTold(c))
				}
				if got == v || tagOf(t, got) != 0 {
					t.Errorf("P14.2: %s, cast from %s to %s, is not wrapped", name, from, to)
				}
				if s := told(value.Seen(got, 1)); s != told(value.Seen(v, 1)) && !strings.Contains(s, "fault") && !strings.Contains(s, "blame") {
					t.Errorf("P14.2: %s, cast from %s to %s, is seen as %s", name, from, to, s)
				}
			}
		}
	}
	// Casts are not merged: each is there, with its label.
	p := casts(t, value.Pair(value.Num(1), value.Num(2)), ",ii", ",??", ",i?", ",??", ",b?")
	wantBlame(t, "P14.2: four casts", of(value.First(p)), 4)
	wantValue(t, "P14.2: four casts", of(value.Second(p)), "2")
}

// The errors of coerce.Of come first, in their order, then ErrStuck.
func TestCastErrors(t *testing.T) {
	five := value.Num(5)
	for _, none := range noTypes() {
		for _, v := range []value.Value{nil, five} {
			for _, label := range []int64{0, 1, 1 << 31} {
				wantError(t, "P14.2: Cast from no type", of(value.Cast(v, none, "i", label)), api.ErrShape)
				wantError(t, "P14.2: Cast to no type", of(value.Cast(v, "i", none, label)), api.ErrShape)
				wantError(t, "P14.2: Cast from no type to it", of(value.Cast(v, none, none, label)), api.ErrShape)
				wantError(t, "P14.2: Cast from ? to no type", of(value.Cast(v, "?", none, label)), api.ErrShape)
			}
		}
	}
	for _, ends := range [][2]string{{"i", "b"}, {"i", "li"}, {">ii", ",ii"}, {"l?", "x?"}, {">ii", ">bi"}, {",?i", ",?b"}, {"li", "lb"}, {"xxi", "xli"}} {
		for _, v := range []value.Value{nil, five} {
			for _, label := range []int64{0, 1, 1 << 31} {
				wantError(t, "P14.2: Cast from "+ends[0]+" to "+ends[1], of(value.Cast(v, ends[0], ends[1], label)), api.ErrType)
			}
		}
	}
	for _, label := range noLabels() {
		for _, ends := range [][2]string{{"i", "i"}, {"?", "?"}, {"i", "?"}, {"?", "i"}, {">ii", ">??"}, {"li", "?"}} {
			wantError(t, "P14.2: Cast with no label", of(value.Cast(five, ends[0], ends[1], label)), api.ErrNumber)
			wantError(t, "P14.2: Cast of none with no label", of(value.Cast(nil, ends[0], ends[1], label)), api.ErrNumber)
		}
	}
	for _, ends := range [][2]string{{"i", "i"}, {"?", "?"}, {"i", "?"}, {"?", "i"}, {">ii", ">??"}, {"li", "?"}} {
		wantStuck(t, "P14.2: Cast of none", of(value.Cast(nil, ends[0], ends[1], 1)))
	}
	for _, from := range append(allTypes(3), noTypes()...) {
		for _, to := range append(allTypes(3), noTypes()...) {
			for _, label := range []int64{0, 1, -1, math.MaxInt32, math.MinInt32} {
				_, want := coerce.Of(from, to, label)
				got := of(value.Cast(nil, from, to, label))
				if want == api.OK {
					want = api.ErrStuck
				}
				wantError(t, "P14.2: Cast of none", got, want)
			}
		}
	}
}

// All labels are told as they are, and turned round.
func TestCastLabels(t *testing.T) {
	for _, label := range someLabels() {
		wantBlame(t, "P14.2: blame", of(value.Cast(tag(t, value.Num(1), "i"), "?", "b", label)), label)
		f := cast(t, value.Fun("f"), ">ii", ">??", label)
		wantBlame(t, "P14.7: blame of an argument", of(value.Arg(f, tag(t, value.Text("a"), "t"))), -label)
		g := cast(t, value.Fun("f"), ">??", ">ii", label)
		wantBlame(t, "P14.7: blame of a result", of(value.Res(g, tag(t, value.Text("a"), "t"))), label)
	}
}

// At the limit of a type's letters. Boxes in boxes are cast as quickly as all else, though their coercions would have 2^64 - 1 nodes.
func TestCastAtTheLimit(t *testing.T) {
	for _, head := range []string{"l", "x"} {
		known, unknown := strings.Repeat(head, 63)+"i", strings.Repeat(head, 63)+"?"
		v := casts(t, value.Box("cell"), known, unknown, known, "?", known)
		wantValue(t, "P14.2: 64 letters", of(v, 0, api.OK), "box")
	}
	deep := strings.Repeat("x", 63)
	b := casts(t, value.Box("cell"), deep+"i", deep+"?")
	inner := of(value.Read(b, value.Box("another")))
	wantValue(t, "P14.7: Read of boxes in boxes", inner, "box")
	for n := 62; n > 0; n-- {
		inner = of(value.Read(inner.v, value.Box("another")))
		if n == 1 {
			break
		}
		wantValue(t, "P14.7: Read of boxes in boxes", inner, "box")
	}
	long := ">" + strings.Repeat("l", 31) + "i" + strings.Repeat("l", 30) + "i"
	if len(long) != api.MaxType {
		t.Fatal(len(long))
	}
	wantValue(t, "P14.2: 64 letters", of(value.Cast(value.Fun(1), long, "?", 1)), "fun")
	wantError(t, "P14.2: 65 letters", of(value.Cast(value.Fun(1), "l"+long, "?", 1)), api.ErrShape)
}
