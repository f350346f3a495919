package value_test

import (
	"strings"
	"testing"

	"culprit/api"
	"culprit/value"
)

type taking struct {
	name string
	head byte
	take func(value.Value) (value.Value, int64, api.Errno)
}

func takings() []taking {
	return []taking{{"First", ',', value.First}, {"Second", ',', value.Second}, {"Head", 'l', value.Head}, {"Tail", 'l', value.Tail}}
}

// P14.6: of bare ones.
func TestPartsOfBareOnes(t *testing.T) {
	for name, v := range kinds(t) {
		other := value.Num(77)
		wantSame(t, "P14.6: First of "+name, of(value.First(value.Pair(v, other))), v)
		wantSame(t, "P14.6: Second of "+name, of(value.Second(value.Pair(other, v))), v)
		wantSame(t, "P14.6: Head of "+name, of(value.Head(value.Cons(v, value.Nil()))), v)
		wantSame(t, "P14.6: Tail of "+name, of(value.Tail(value.Cons(other, v))), v)
	}
}

// P14.6: ErrStuck of any other value; ErrGone of an empty list.
func TestPartsOfOthers(t *testing.T) {
	all := kinds(t)
	all["none"] = nil
	for name, v := range all {
		for _, k := range takings() {
			got := of(k.take(v))
			bare := !strings.Contains(name, "tagged")
			switch {
			case k.head == ',' && bare && strings.HasPrefix(name, "a pair"), k.head == 'l' && bare && strings.HasPrefix(name, "a list"):
				if got.v == nil || got.label != 0 || got.e != api.OK {
					t.Errorf("P14.6: %s of %s = %v, %d, %d", k.name, name, got.v, got.label, got.e)
				}
			case k.head == 'l' && bare && strings.HasPrefix(name, "the empty list"):
				wantError(t, "P14.6: "+k.name+" of "+name, got, api.ErrGone)
			default:
				wantStuck(t, "P14.6: "+k.name+" of "+name, got)
			}
		}
	}
}

// P14.6: wrappers of another head, wherever they stand, ahead of every blame.
func TestPartsThroughOtherWrappers(t *testing.T) {
	inside := map[byte]value.Value{',': value.Pair(value.Num(1), value.Num(2)), 'l': value.Cons(value.Num(1), value.Nil())}
	bad := map[byte]string{',': ",#8ib#8ib", 'l': "l#8ib"}
	for _, k := range takings() {
		for _, other := range []byte(">,lx") {
			if other == k.head {
				continue
			}
			for _, byCast := range []bool{true, false} {
				v := wrapped(t, inside[k.head], other, byCast)
				wantStuck(t, "P14.6: "+k.name+" in a wrapper of the head "+string(rune(other)), of(k.take(v)))
				v = cast(t, coerced(t, inside[k.head], bad[k.head]), groundOf(k.head), k.truths(), 4)
				v = wrapped(t, v, other, byCast)
				wantStuck(t, "P14.6: "+k.name+" in a wrapper of the head "+string(rune(other))+" around one that blames", of(k.take(v)))
				// Even of an empty list, and of parts that are none.
				wantStuck(t, "P14.6: "+k.name+" of an empty list in such a wrapper", of(k.take(wrapped(t, value.Nil(), other, byCast))))
			}
		}
	}
}

// truths is a type with the head of what is taken apart.
func (k taking) truths() string { return string(rune(k.head)) + strings.Repeat("b", arity(k.head)) }

// P14.6: parts that are none.
func TestPartsThatAreNone(t *testing.T) {
	one := value.Num(1)
	for _, around := range []func(value.Value, byte) value.Value{
		func(v value.Value, _ byte) value.Value { return v },
		func(v value.Value, head byte) value.Value { return wrapped(t, v, head, true) },
		func(v value.Value, head byte) value.Value { return wrapped(t, v, head, false) },
		func(v value.Value, head byte) value.Value {
			return cast(t, v, groundOf(head), string(rune(head))+strings.Repeat("l?", arity(head)), 5)
		},
		// It would be blamed, if it were there.
		func(v value.Value, head byte) value.Value {
			return coerced(t, v, map[byte]string{',': ",#8ib#8ib", 'l': "l#8ib"}[head])
		},
		// Nothing is done to what is there.
		func(v value.Value, head byte) value.Value {
			return coerced(t, v, map[byte]string{',': ",!i!i", 'l': "l!i"}[head])
		},
	} {
		wantStuck(t, "P14.6: First that is none", of(value.First(around(value.Pair(nil, one), ','))))
		wantStuck(t, "P14.6: Second that is none", of(value.Second(around(value.Pair(one, nil), ','))))
		wantStuck(t, "P14.6: Head that is none", of(value.Head(around(value.Cons(nil, value.Nil()), 'l'))))
		wantStuck(t, "P14.6: Tail that is none", of(value.Tail(around(value.Cons(one, nil), 'l'))))
	}
	// The other one may be none.
	wantSame(t, "P14.6: First beside none", of(value.First(value.Pair(one, nil))), one)
	wantSame(t, "P14.6: Second beside none", of(value.Second(value.Pair(nil, one))), one)
	wantSame(t, "P14.6: Head ahead of none", of(value.Head(value.Cons(one, nil))), one)
	wantSame(t, "P14.6: Tail behind none", of(value.Tail(value.Cons(nil, value.Nil()))), value.Nil())
}

// P14.6: halves, cast from the one part to the other.
func TestHalvesInCasts(t *testing.T) {
	p := value.Pair(value.Num(1), value.Text("a"))
	out := casts(t, p, ",it", ",??")
	wantValue(t, "P14.6: First", of(value.First(out)), "1")
	if first := of(value.First(out)); tagOf(t, first.v) != 'i' {
		t.Error("P14.6: First is not tagged")
	}
	if second := of(value.Second(out)); tagOf(t, second.v) != 't' {
		t.Error("P14.6: Second is not tagged")
	}
	back := casts(t, p, ",it", ",??", ",it")
	wantSame(t, "P14.6: First, there and back", of(value.First(back)), value.Num(1))
	wantSame(t, "P14.6: Second, there and back", of(value.Second(back)), value.Text("a"))
	wrong := casts(t, p, ",it", ",??", ",ti")
	wantBlame(t, "P14.6: First, another head", of(value.First(wrong)), 2)
	wantBlame(t, "P14.6: Second, another head", of(value.Second(wrong)), 2)
	// The innermost blames first.
	twice := casts(t, p, ",it", ",??", ",ti", ",??", ",bb")
	wantBlame(t, "P14.6: First, twice wrong", of(value.First(twice)), 2)
	// One half only.
	half := casts(t, p, ",it", ",?t", ",bt")
	wantBlame(t, "P14.6: First, that is wrong", of(value.First(half)), 2)
	wantSame(t, "P14.6: Second, that is right", of(value.Second(half)), value.Text("a"))
	// Stuck, where a cast from ? does not find a tag.
	stuck := casts(t, p, ",??", ",it")
	wantStuck(t, "P14.6: First of no tag", of(value.First(stuck)))
	wantStuck(t, "P14.6: Second of no tag", of(value.Second(stuck)))
	// A blame inside stands ahead of what is stuck outside, and the other way round.
	wantBlame(t, "P14.6: blame, then stuck", of(value.First(casts(t, value.Pair(tag(t, value.Num(1), "i"), nil), ",??", ",b?", ",bb", ",?b", ",bb"))), 1)
	inStuck := casts(t, value.Pair(value.Num(1), value.Num(2)), ",??", ",ii", ",??", ",bb")
	wantStuck(t, "P14.6: stuck, then blame", of(value.First(inStuck)))
	// A half that is wrapped itself is wrapped again.
	nested := casts(t, value.Pair(value.Cons(value.Num(1), value.Nil()), value.Num(2)), ",lii", ",l?i", ",lbi")
	wantValue(t, "P14.6: a list in a pair", of(value.First(nested)), "cons blame:2 empty")
	// The labels below 0 stay as they are: nothing is turned round.
	neg := cast(t, value.Pair(tag(t, value.Num(1), "i"), value.Num(2)), ",?i", ",bi", -9)
	wantBlame(t, "P14.6: a label below 0", of(value.First(neg)), -9)
}

// P14.6: halves, coerced by the kids.
func TestHalvesInMiddles(t *testing.T) {
	p := value.Pair(value.Num(1), value.Text("a"))
	for _, row := range []struct{ text, first, second string }{
		{",!i!t", "1", `"a"`},
		{",!it", "1", `"a"`},
		{",i!t", "1", `"a"`},
		{",#4ibt", "blame 4", `"a"`},
		{",i#-4tb", "1", "blame -4"},
		{",5?it", "error 32", `"a"`},
		{",i5?t", "1", "error 32"},
		{",5?#4ibt", "error 32", `"a"`},
	} {
		v := coerced(t, p, row.text)
		if got := of(value.First(v)).told(); got != row.first {
			t.Errorf("P14.6: First through %s = %s", row.text, got)
		}
		if got := of(value.Second(v)).told(); got != row.second {
			t.Errorf("P14.6: Second through %s = %s", row.text, got)
		}
	}
	tagged := value.Pair(tag(t, value.Num(1), "i"), tag(t, value.Text("a"), "t"))
	v := coerced(t, tagged, ",6?i7?b")
	wantSame(t, "P14.6: First through 6?i", of(value.First(v)), value.Num(1))
	wantBlame(t, "P14.6: Second through 7?b", of(value.Second(v)), 7)
	// The kids are parts of one list: the second begins where the first ends.
	lists := value.Pair(value.Cons(value.Num(1), value.Nil()), value.Fun("f"))
	deep := coerced(t, lists, ",l!i>x!i-3?il!i")
	wantWrapped(t, "P14.6: the first kid", of(value.First(deep)), "l!i", first(lists))
	wantWrapped(t, "P14.6: the second kid", of(value.Second(deep)), ">x!i-3?il!i", second(lists))
	// Kids with both ends in ?.
	ends := coerced(t, value.Pair(tag(t, value.Nil(), "l?"), value.Nil()), ",3?!l?!l!i")
	if got := of(value.First(ends)); got.e != api.OK || tagOf(t, got.v) != 'l' {
		t.Error("P14.6: First through 3?!l?:", got.e)
	}
	got := of(value.Second(ends))
	if got.e != api.OK || tagOf(t, got.v) != 'l' {
		t.Error("P14.6: Second through !l!i:", got.e)
	}
	wantWrapped(t, "P14.6: in the tag", of(value.Cast(got.v, "?", "l?", 1)), "l!i", value.Nil())
	// A half that does not meet its kid.
	wantStuck(t, "P14.6: a half that does not meet", of(value.First(coerced(t, value.Pair(coerced(t, value.Nil(), "l!i"), nil), ",l!ii"))))
}

func first(v value.Value) value.Value {
	x, _, _ := value.First(v)
	return x
}

func second(v value.Value) value.Value {
	x, _, _ := value.Second(v)
	return x
}

// P14.6: casts and middles, one around the other.
func TestHalvesInBoth(t *testing.T) {
	p := value.Pair(value.Num(1), value.Num(2))
	v := coerced(t, casts(t, p, ",ii", ",??"), ",7?i7?b")
	wantSame(t, "P14.6: First", of(value.First(v)), value.Num(1))
	wantBlame(t, "P14.6: Second", of(value.Second(v)), 7)
	v = cast(t, coerced(t, p, ",!i!i"), ",??", ",ib", 7)
	wantSame(t, "P14.6: First", of(value.First(v)), value.Num(1))
	wantBlame(t, "P14.6: Second", of(value.Second(v)), 7)
}

// P14.6: Head and Tail in casts.
func TestListsInCasts(t *testing.T) {
	l := value.Cons(value.Num(1), value.Cons(value.Text("a"), value.Nil()))
	out := casts(t, l, "li", "l?")
	if head := of(value.Head(out)); head.e != api.OK || tagOf(t, head.v) != 'i' {
		t.Error("P14.6: Head is not tagged")
	}
	rest := of(value.Tail(out))
	wantValue(t, "P14.6: Tail", rest, `cons "a" empty`)
	if head := of(value.Head(rest.v)); head.e != api.OK || tagOf(t, head.v) != 'i' { // the cast says i; nobody asks the text
		t.Error("P14.6: Head of Tail is not tagged: Tail is not wrapped alike")
	}
	wantError(t, "P14.6: Head of an empty one, wrapped", of(value.Head(casts(t, value.Nil(), "li", "l?"))), api.ErrGone)
	wantError(t, "P14.6: Tail of an empty one, wrapped", of(value.Tail(casts(t, value.Nil(), "li", "l?"))), api.ErrGone)
	wrong := casts(t, l, "li", "l?", "lb")
	wantBlame(t, "P14.6: Head", of(value.Head(wrong)), 2)
	wantValue(t, "P14.6: Tail is not blamed", of(value.Tail(wrong)), "cons blame:2 empty")
	wantStuck(t, "P14.6: Head of no tag", of(value.Head(casts(t, l, "l?", "li"))))
	wantValue(t, "P14.6: Tail of no tag", of(value.Tail(casts(t, l, "l?", "li"))), "cons fault:32 empty")
	// Tail keeps both casts, in their order, and is wrapped with no middle.
	tail := of(value.Tail(wrong))
	if _, _, ok := value.Wrap(tail.v); ok || tail.v == nil {
		t.Error("P14.6: Tail is wrapped with a middle")
	}
	wantBlame(t, "P14.6: Head of Tail", of(value.Head(tail.v)), 2)
	// A rest that is wrapped itself: both wrappers stand.
	inner := value.Cons(tag(t, value.Num(1), "i"), casts(t, value.Cons(value.Num(2), value.Nil()), "li", "l?"))
	wantValue(t, "P14.6: a rest that is wrapped", of(value.Tail(cast(t, inner, "l?", "lb", 5))), "cons blame:5 empty")
	wantValue(t, "P14.6: a rest that is wrapped", of(value.Tail(cast(t, inner, "l?", "li", 5))), "cons 2 empty")
	// A rest that is no list: nobody asks.
	wantValue(t, "P14.6: a rest that is no list", of(value.Tail(casts(t, value.Cons(value.Num(1), value.Num(2)), "li", "l?"))), "2")
}

// P14.6: Head and Tail in middles: the rest is merged.
func TestListsInMiddles(t *testing.T) {
	rest := value.Cons(value.Num(2), value.Nil())
	l := value.Cons(value.Num(1), rest)
	v := coerced(t, l, "l!i")
	if head := of(value.Head(v)); head.e != api.OK || tagOf(t, head.v) != 'i' {
		t.Error("P14.6: Head is not tagged")
	}
	wantWrapped(t, "P14.6: Tail", of(value.Tail(v)), "l!i", rest)
	wantBlame(t, "P14.6: Head", of(value.Head(coerced(t, l, "l#4ib"))), 4)
	wantWrapped(t, "P14.6: Tail is not blamed", of(value.Tail(coerced(t, l, "l#4ib"))), "l#4ib", rest)
	wantStuck(t, "P14.6: Head of no tag", of(value.Head(coerced(t, l, "l5?i"))))
	wantError(t, "P14.6: Head of an empty one, wrapped", of(value.Head(coerced(t, value.Nil(), "l!i"))), api.ErrGone)
	wantError(t, "P14.6: Tail of an empty one, wrapped", of(value.Tail(coerced(t, value.Nil(), "l!i"))), api.ErrGone)
	// A rest that is wrapped with a middle already: one for both, or bare, or stuck.
	wantWrapped(t, "P14.6: Tail, merged", of(value.Tail(coerced(t, value.Cons(value.Num(1), coerced(t, rest, "l!i")), "l7?b"))), "l#7ib", rest)
	wantSame(t, "P14.6: Tail, bare", of(value.Tail(coerced(t, value.Cons(value.Num(1), coerced(t, rest, "l!i")), "l7?i"))), rest)
	wantStuck(t, "P14.6: Tail, stuck", of(value.Tail(coerced(t, value.Cons(value.Num(1), coerced(t, rest, "l!i")), "l!i"))))
	// With a cast between, both stand.
	between := cast(t, coerced(t, l, "l!i"), "l?", "lb", 5)
	wantBlame(t, "P14.6: Head through both", of(value.Head(between)), 5)
	tail := of(value.Tail(between))
	wantValue(t, "P14.6: Tail through both", tail, "cons blame:5 empty")
	if _, _, ok := value.Wrap(tail.v); ok {
		t.Error("P14.6: Tail through both: the cast is not the outer one")
	}
	around := coerced(t, casts(t, l, "li", "l?"), "l7?b")
	c, in, ok := value.Wrap(of(value.Tail(around)).v)
	if !ok || coTold(c) != "l7?b" || in == nil || in == rest {
		t.Error("P14.6: Tail of a middle around a cast:", coTold(c), ok)
	}
}
