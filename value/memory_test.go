package value_test

import (
	"fmt"
	"slices"
	"testing"

	"culprit/api"
	"culprit/value"
)

// roomy: a list with spare room, and something in it.
func roomy(c []api.Co) []api.Co {
	return append(slices.Clone(c), api.Co{Op: 77, Proj: 77}, api.Co{Op: 78, Head: 'z'}, api.Co{Op: api.CoAny})[:len(c)]
}

// everything: a list with its spare room, as a copy.
func everything(c []api.Co) []api.Co { return slices.Clone(c[:cap(c)]) }

// A nil value, handed in to each call.
func TestNone(t *testing.T) {
	one := value.Num(1)
	f, b := value.Fun("f"), value.Box("b")
	for what, got := range map[string]answer{
		"Cast to itself":        of(value.Cast(nil, "i", "i", 1)),
		"Cast to ?":             of(value.Cast(nil, "i", "?", 1)),
		"Cast from ?":           of(value.Cast(nil, "?", "i", 1)),
		"Cast of a head":        of(value.Cast(nil, "li", "l?", 1)),
		"Cast from ? to ?":      of(value.Cast(nil, "?", "?", 1)),
		"Coerce by ?":           of(value.Coerce(nil, co(t, "?"))),
		"Coerce by !i":          of(value.Coerce(nil, co(t, "!i"))),
		"Coerce by 1?i":         of(value.Coerce(nil, co(t, "1?i"))),
		"Coerce by #1ib":        of(value.Coerce(nil, co(t, "#1ib"))),
		"Coerce by l!i":         of(value.Coerce(nil, co(t, "l!i"))),
		"First":                 of(value.First(nil)),
		"Second":                of(value.Second(nil)),
		"Head":                  of(value.Head(nil)),
		"Tail":                  of(value.Tail(nil)),
		"Arg of none":           of(value.Arg(f, nil)),
		"Arg by none":           of(value.Arg(nil, one)),
		"Arg of none by none":   of(value.Arg(nil, nil)),
		"Res of none":           of(value.Res(f, nil)),
		"Res by none":           of(value.Res(nil, one)),
		"Res of none by none":   of(value.Res(nil, nil)),
		"Read of none":          of(value.Read(b, nil)),
		"Read by none":          of(value.Read(nil, one)),
		"Read of none by none":  of(value.Read(nil, nil)),
		"Write of none":         of(value.Write(b, nil)),
		"Write by none":         of(value.Write(nil, one)),
		"Write of none by none": of(value.Write(nil, nil)),
	} {
		wantStuck(t, "a nil value: "+what, got)
	}
	if n, e := value.AsNum(nil); n != 0 || e != api.ErrStuck {
		t.Error("a nil value: AsNum:", n, e)
	}
	if s, e := value.AsText(nil); s != "" || e != api.ErrStuck {
		t.Error("a nil value: AsText:", s, e)
	}
	if b, e := value.AsTruth(nil); b || e != api.ErrStuck {
		t.Error("a nil value: AsTruth:", b, e)
	}
	if b, e := value.IsEmpty(nil); b || e != api.ErrStuck {
		t.Error("a nil value: IsEmpty:", b, e)
	}
	if x, e := value.Code(nil); x != nil || e != api.ErrStuck {
		t.Error("a nil value: Code:", x, e)
	}
	if x, e := value.Cell(nil); x != nil || e != api.ErrStuck {
		t.Error("a nil value: Cell:", x, e)
	}
	if c, v, ok := value.Wrap(nil); c != nil || v != nil || ok {
		t.Error("a nil value: Wrap:", c, v, ok)
	}
	wantSeen(t, "none", nil, 1, "fault:32")
}

// snapshot tells all that can be told of a value.
func snapshot(t *testing.T, v value.Value) string {
	t.Helper()
	s := told(value.Seen(v, 9)) + " layers " + fmt.Sprint(value.Layers(v))
	if c, in, ok := value.Wrap(v); ok {
		s += " middle " + coTold(c) + " around " + snapshot(t, in)
	}
	for _, k := range takings() {
		s += " " + k.name + ": " + of(k.take(v)).told()
	}
	for _, k := range throughs() {
		s += " " + k.name + ": " + of(k.call(v, value.Num(1))).told() + ", " + of(k.call(v, tag(t, value.Num(1), "i"))).told()
	}
	return s
}

// R5: a coercion that is handed in stays as it was, its spare room too, and is not kept.
func TestCoercionsStay(t *testing.T) {
	v := map[string]value.Value{
		"l!i": value.Cons(value.Num(1), value.Nil()), ">-5?i!i": value.Fun("f"), "x!i-5?i": value.Box("b"), ",!ii": value.Pair(value.Num(1), value.Num(2)),
		"!l!i": value.Nil(), "!>-5?i!i": value.Fun("f"), "5?l6?i": tag(t, listOf(3), "l?"), "5?!l6?!i": tag(t, listOf(3), "l?"),
		"i": value.Num(1), "!i": value.Num(1), "5?i": tag(t, value.Num(1), "i"), "?": value.Num(1), "l?": value.Nil(),
		"l7?b": coerced(t, listOf(2), "l!i"), "l7?i": coerced(t, listOf(2), "l!i"), "5?l7?b": coerced(t, listOf(2), "!l!i"),
	}
	for text, x := range v {
		c := roomy(co(t, text))
		before, as := everything(c), snapshot(t, x)
		got := of(value.Coerce(x, c))
		if got.e != api.OK {
			t.Fatal(text, got.e)
		}
		if !slices.Equal(everything(c), before) {
			t.Errorf("R5: Coerce by %s changes its argument", text)
		}
		if snapshot(t, x) != as {
			t.Errorf("R5: Coerce by %s changes its value", text)
		}
		is := snapshot(t, got.v)
		clear(c[:cap(c)])
		if s := snapshot(t, got.v); s != is {
			t.Errorf("R5: Coerce by %s keeps its argument: %s; then %s", text, is, s)
		}
	}
	for _, c := range noCoercions() {
		c = roomy(c)
		before := everything(c)
		value.Coerce(value.Num(1), c)
		if !slices.Equal(everything(c), before) {
			t.Error("R5: Coerce by what may not be changes it")
		}
	}
}

// R5: what Wrap and Seen answer is new memory, each time.
func TestAnswersAreNew(t *testing.T) {
	merged := []value.Value{
		coerced(t, listOf(3), "l!i"), coerced(t, value.Fun("f"), ">-5?i!i"), coerced(t, value.Box("b"), "x!i-5?i"), coerced(t, value.Pair(listOf(1), listOf(2)), ",l!il!i"),
		coerced(t, listOf(3), "l!i", "l7?b"), coerced(t, listOf(3), "l5?i", "l!i"),
	}
	for _, v := range merged {
		is := snapshot(t, v)
		c, _, _ := value.Wrap(v)
		other, _, _ := value.Wrap(v)
		want := slices.Clone(c)
		clear(c[:cap(c)])
		if !slices.Equal(other, want) {
			t.Error("R5: two answers of Wrap share memory")
		}
		if s := snapshot(t, v); s != is {
			t.Errorf("R5: an answer of Wrap is the value's own: %s; then %s", is, s)
		}
	}
	// Parts of a wrapped value: their middles are not the whole's.
	p := merged[3]
	is := snapshot(t, p)
	first, _, _ := value.First(p)
	second, _, _ := value.Second(p)
	c, _, _ := value.Wrap(first)
	clear(c[:cap(c)])
	c, _, _ = value.Wrap(second)
	clear(c[:cap(c)])
	if s := snapshot(t, p); s != is {
		t.Errorf("R5: a part's middle is the whole's: %s; then %s", is, s)
	}
	for name, v := range kinds(t) {
		one, other := value.Seen(v, 5), value.Seen(v, 5)
		if !slices.Equal(one, other) {
			t.Errorf("R6: Seen of %s: %s, and %s", name, told(one), told(other))
		}
		want := slices.Clone(one)
		clear(one[:cap(one)])
		if !slices.Equal(other, want) || !slices.Equal(value.Seen(v, 5), want) {
			t.Errorf("R5: two answers of Seen of %s share memory", name)
		}
	}
}

// R5: no call changes a value that it is handed.
func TestValuesStay(t *testing.T) {
	all := kinds(t)
	before := map[string]string{}
	for name, v := range all {
		before[name] = snapshot(t, v)
	}
	for _, v := range all {
		for _, k := range takings() {
			k.take(v)
		}
		for _, k := range throughs() {
			for _, x := range all {
				k.call(v, x)
			}
		}
		for _, from := range allTypes(2) {
			for _, to := range allTypes(2) {
				value.Cast(v, from, to, 4)
			}
		}
		for _, text := range []string{"?", "!i", "7?i", "#7ib", "l!i", "l7?i", "l#7ib", ">!i7?i", ">-7?i!i", ",!i!i", ",7?b7?i", "x7?i!i", "x!i-7?i", "!l!i", "7?l7?i"} {
			value.Coerce(v, co(t, text))
		}
		value.Pair(v, v)
		value.Cons(v, v)
		value.Seen(v, 3)
	}
	for name, v := range all {
		if s := snapshot(t, v); s != before[name] {
			t.Errorf("R5: %s was %s; now it is %s", name, before[name], s)
		}
	}
}

// R4: no nodes, as nil and as a list without nodes, are no coercion.
func TestNoNodes(t *testing.T) {
	for _, none := range [][]api.Co{nil, {}, co(t, "i")[:0]} {
		wantError(t, "R4: Coerce by no nodes", of(value.Coerce(value.Num(1), none)), api.ErrShape)
		wantError(t, "R4: Coerce of none by no nodes", of(value.Coerce(nil, none)), api.ErrShape)
	}
}
