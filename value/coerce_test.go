package value_test

import (
	"slices"
	"strings"
	"testing"

	"culprit/api"
	"culprit/coerce"
	"culprit/value"
)

// wantWrapped: a value wrapped with just that middle around just that value.
func wantWrapped(t *testing.T, what string, got answer, middle string, inner value.Value) {
	t.Helper()
	if got.v == nil || got.label != 0 || got.e != api.OK {
		t.Errorf("%s = %v, %d, %d; want a value", what, got.v, got.label, got.e)
		return
	}
	c, in, ok := value.Wrap(got.v)
	if !ok || coTold(c) != middle || in != inner {
		t.Errorf("%s is wrapped with %s (%v), the inner value being the same: %v; want %s", what, coTold(c), ok, in == inner, middle)
	}
}

// wantSame: just that value, as it was.
func wantSame(t *testing.T, what string, got answer, v value.Value) {
	t.Helper()
	if got != (answer{v, 0, api.OK}) {
		t.Errorf("%s = %v, %d, %d; want the value as it was", what, got.v, got.label, got.e)
	}
}

func TestCoerceErrors(t *testing.T) {
	for i, c := range noCoercions() {
		for _, v := range []value.Value{nil, value.Num(5), tag(t, value.Num(5), "i"), value.Nil()} {
			if got := of(value.Coerce(v, c)); got != (answer{nil, 0, api.ErrShape}) {
				t.Errorf("P14.3: Coerce by what may not be, %d, = %v, %d, %d", i, got.v, got.label, got.e)
			}
		}
	}
	for _, text := range []string{"?", "i", "!i", "5?i", "#5ib", "5?#6ib", "l?", ">-5?i!i", "x!i-5?i"} {
		wantStuck(t, "P14.3: Coerce of none by "+text, of(value.Coerce(nil, co(t, text))))
	}
}

// CoAny, and all identities: nothing is done.
func TestCoerceByIdentities(t *testing.T) {
	for name, v := range kinds(t) {
		for _, text := range []string{"?", "i", "b", "t", "l?", "li", ">ii", ",??", "xii", "l>,ibl?"} {
			wantSame(t, "P14.3: Coerce of "+name+" by "+text, of(value.Coerce(v, co(t, text))), v)
		}
	}
	// Of a wrapped value too, and whether the middles meet is not asked.
	v := coerced(t, value.Nil(), "l!i")
	for _, text := range []string{"l?", "li", "lb", ",ii", ">??"} {
		wantSame(t, "P14.3: Coerce of a wrapped one by "+text, of(value.Coerce(v, co(t, text))), v)
	}
}

// With a Proj: a tagged value is looked into.
func TestCoerceLooks(t *testing.T) {
	byHead := map[byte]string{'i': "i", 'b': "b", 't': "t", '>': ">??", ',': ",??", 'l': "l?", 'x': "x??"}
	for name, v := range kinds(t) {
		for _, head := range []byte(heads) {
			look := "5?" + byHead[head]
			if !strings.HasSuffix(name, "tagged") {
				wantStuck(t, "P14.3: Coerce of "+name+" by "+look, of(value.Coerce(v, co(t, look))))
			}
			for _, other := range []byte(heads) {
				tagged := tag(t, v, groundOf(other))
				got := of(value.Coerce(tagged, co(t, look)))
				if other != head {
					wantBlame(t, "P14.3: Coerce by "+look+" of one tagged "+string(rune(other)), got, 5)
					continue
				}
				wantSame(t, "P14.3: Coerce of "+name+", tagged, by "+look, got, v)
			}
		}
	}
	for _, label := range someLabels() {
		c := []api.Co{{Op: api.CoBase, Head: 'b', Proj: label}}
		wantBlame(t, "P14.3: the Proj is blamed", of(value.Coerce(tag(t, value.Num(1), "i"), c)), label)
	}
	wantStuck(t, "P14.3: a tag in a cast", of(value.Coerce(cast(t, tag(t, value.Nil(), "l?"), "li", "l?", 1), co(t, "5?l?"))))
	wantStuck(t, "P14.3: a tag in a middle", of(value.Coerce(coerced(t, tag(t, value.Nil(), "l?"), "l!i"), co(t, "5?l?"))))
}

// With Inj: it is tagged.
func TestCoerceTags(t *testing.T) {
	byHead := map[byte]string{'i': "i", 'b': "b", 't': "t", '>': ">??", ',': ",??", 'l': "l?", 'x': "x??"}
	for name, v := range kinds(t) {
		for _, head := range []byte(heads) {
			got := coerced(t, v, "!"+byHead[head])
			if tagOf(t, got) != head {
				t.Errorf("P14.3: %s, coerced by !%s, is tagged %q", name, byHead[head], tagOf(t, got))
			}
			wantSame(t, "P14.3: what is in it", of(value.Cast(got, "?", groundOf(head), 1)), v)
			// Both ends: out of the tag, and in again.
			again := coerced(t, got, "3?!"+byHead[head])
			if tagOf(t, again) != head {
				t.Errorf("P14.3: %s, coerced by 3?!%s, is tagged %q", name, byHead[head], tagOf(t, again))
			}
			wantSame(t, "P14.3: what is in it", of(value.Cast(again, "?", groundOf(head), 1)), v)
		}
	}
}

// CoFail: its Label is blamed, behind what its Proj looks for.
func TestCoerceFails(t *testing.T) {
	for name, v := range kinds(t) {
		wantBlame(t, "P14.3: Coerce of "+name+" by #7ib", of(value.Coerce(v, co(t, "#7ib"))), 7)
		wantBlame(t, "P14.3: Coerce of "+name+" by #-7>l", of(value.Coerce(v, co(t, "#-7>l"))), -7)
		if !strings.HasSuffix(name, "tagged") {
			wantStuck(t, "P14.3: Coerce of "+name+" by 3?#7ib", of(value.Coerce(v, co(t, "3?#7ib"))))
		}
		wantBlame(t, "P14.3: one tagged l, by 3?#7ib", of(value.Coerce(tag(t, v, "l?"), co(t, "3?#7ib"))), 3)
		wantBlame(t, "P14.3: one tagged i, by 3?#7ib", of(value.Coerce(tag(t, v, "i"), co(t, "3?#7ib"))), 7)
	}
	for _, label := range someLabels() {
		c := []api.Co{{Op: api.CoFail, Head: 'l', From: 'l', To: 'b', Label: label}}
		wantBlame(t, "P14.3: the Label is blamed", of(value.Coerce(value.Nil(), c)), label)
	}
}

// The middle: c without Proj and Inj, around what is no middle's already.
func TestCoerceWraps(t *testing.T) {
	bare := []struct {
		v                  value.Value
		ground, text, look string
	}{
		{value.Fun("f"), ">??", ">-5?i!i", "5?>!i5?b"},
		{value.Pair(value.Num(1), value.Num(2)), ",??", ",!i5?b", "5?,5?i5?b"},
		{value.Cons(value.Num(1), value.Nil()), "l?", "l!i", "5?l5?i"},
		{value.Nil(), "l?", "l!i", "5?l5?i"},
		{value.Box("b"), "x?", "x!i-5?i", "5?x5?i!i"},
		{value.Num(3), "l?", "l!i", "5?l5?i"}, // no value of that head: nobody asks
		{value.Fun("f"), "l?", "l#7ib", "5?l5?#7ib"},
	}
	for _, b := range bare {
		wantWrapped(t, "P14.3: by "+b.text, of(value.Coerce(b.v, co(t, b.text))), b.text, b.v)
		byCast := cast(t, b.v, b.ground, b.ground[:1]+strings.Repeat("i", len(b.ground)-1), 3)
		wantWrapped(t, "P14.3: around a cast, by "+b.text, of(value.Coerce(byCast, co(t, b.text))), b.text, byCast)
		inTag := tag(t, b.v, b.ground)
		wantWrapped(t, "P14.3: around a tagged one, by "+b.text, of(value.Coerce(inTag, co(t, b.text))), b.text, inTag)
		wantWrapped(t, "P14.3: by "+b.look, of(value.Coerce(inTag, co(t, b.look))), b.look[2:], b.v)
	}
	// With Inj the middle is in the tag.
	for text, v := range map[string]value.Value{">-5?i!i": value.Fun(1), ",!i!b": value.Pair(value.Num(1), value.Truth(true)), "l!i": value.Nil(), "x!i-5?i": value.Box(1)} {
		got := coerced(t, v, "!"+text)
		if tagOf(t, got) != text[0] {
			t.Errorf("P14.3: by !%s: tagged %q", text, tagOf(t, got))
		}
		wantWrapped(t, "P14.3: what is in the tag, by !"+text, of(value.Cast(got, "?", groundOf(text[0]), 1)), text, v)
	}
	// Proj and Inj at once: out of the tag, wrapped, in again.
	both := coerced(t, tag(t, value.Nil(), "l?"), "3?!l4?!i")
	if tagOf(t, both) != 'l' {
		t.Error("P14.3: Proj and Inj: the tag is", tagOf(t, both))
	}
	wantWrapped(t, "P14.3: Proj and Inj", of(value.Cast(both, "?", "l?", 1)), "l4?!i", value.Nil())
	// A wrapper is around what is in the tag, not around the tag, even if that is wrapped itself.
	wrapped := coerced(t, value.Nil(), "!l!i")
	wantWrapped(t, "P14.3: merged with what is in the tag", of(value.Coerce(wrapped, co(t, "3?l7?b"))), "l#7ib", value.Nil())
}

// Where it is wrapped with a middle already, there is one for both.
func TestCoerceMerges(t *testing.T) {
	for _, row := range [][3]string{
		{"l!i", "l7?b", "l#7ib"},
		{"l!i", "l3?!i", "l!i"},
		{">-5?i!i", ">!i7?b", ">i#7ib"},
		{">-5?i!i", ">!b7?i", ">#-5bii"},
		{">!i5?i", ">-6?i!i", ">-6?!i5?!i"},
		{",!i!b", ",7?i7?t", ",i#7bt"},
		{"x!i-5?i", "x7?b!b", "x#7ib#-5bi"},
		{"ll!i", "ll7?b", "ll#7ib"},
		{"l#4ib", "l!b", "l#4ib"},
		{"l4?i", "l!i", "l4?!i"},
	} {
		for _, v := range []value.Value{value.Nil(), value.Fun(1), value.Num(1)} {
			first := coerced(t, v, row[0])
			wantWrapped(t, "P14.3: "+row[0]+", then "+row[1], of(value.Coerce(first, co(t, row[1]))), row[2], v)
			then, e := coerce.Then(co(t, row[0]), co(t, row[1]))
			if e != api.OK || coTold(then) != row[2] {
				t.Fatal(row, coTold(then), e)
			}
		}
	}
	// Bare, where both together are an identity.
	for _, row := range [][2]string{{"l!i", "l7?i"}, {">-5?i!i", ">!i7?i"}, {",!i!b", ",7?i7?b"}, {"x!i-5?i", "x7?i!i"}, {"ll!i", "ll7?i"}} {
		for _, v := range []value.Value{value.Nil(), value.Fun(1), value.Num(1)} {
			wantSame(t, "P14.3: "+row[0]+", then "+row[1], of(value.Coerce(coerced(t, v, row[0]), co(t, row[1]))), v)
		}
	}
	// And tagged then, with Inj.
	merged := coerced(t, value.Nil(), "l7?i", "!l!i")
	if tagOf(t, merged) != 'l' {
		t.Error("P14.3: merged, and Inj: not tagged")
	}
	wantWrapped(t, "P14.3: merged, in the tag", of(value.Cast(merged, "?", "l?", 1)), "l7?!i", value.Nil())
}

// ErrStuck, where the middles do not meet; with Inj and with a Proj too.
func TestCoerceDoesNotMeet(t *testing.T) {
	for _, row := range [][2]string{{"l!i", "l!i"}, {"l5?i", "l5?i"}, {"l!i", ",!i!i"}, {"l5?i", "l#6bi"}, {">-5?i!i", ">-5?i!i"}, {",!i!i", ",7?i!i"}, {"x!i-5?i", "x!i-5?i"}, {"l!i", "!l!i"}, {"lli", "l5?li"}} {
		first := coerced(t, value.Nil(), row[0])
		if _, _, ok := value.Wrap(first); !ok {
			continue
		}
		wantStuck(t, "P14.3: "+row[0]+", then "+row[1], of(value.Coerce(first, co(t, row[1]))))
	}
	in := coerced(t, value.Nil(), "l5?i")
	wantStuck(t, "P14.3: with a Proj", of(value.Coerce(tag(t, in, "l?"), co(t, "3?l5?i"))))
	// In a cast's wrapper nothing is merged: nothing has to meet.
	byCast := cast(t, in, "li", "l?", 4)
	wantWrapped(t, "P14.3: around a cast", of(value.Coerce(byCast, co(t, "l5?i"))), "l5?i", byCast)
}

// CoBase: its Proj and Inj, and no wrapper.
func TestCoerceByBases(t *testing.T) {
	for name, v := range kinds(t) {
		for _, head := range []string{"i", "b", "t"} {
			wantSame(t, "P14.3: "+name+" by "+head, of(value.Coerce(v, co(t, head))), v)
			tagged := coerced(t, v, "!"+head)
			wantSame(t, "P14.3: "+name+" by !"+head+", then 7?"+head, of(value.Coerce(tagged, co(t, "7?"+head))), v)
		}
	}
}

// P14.4: Wrap of a middle; of all else nothing.
func TestWrap(t *testing.T) {
	for name, v := range kinds(t) {
		c, in, ok := value.Wrap(v)
		if strings.HasSuffix(name, "in a middle") {
			if !ok || in == nil || !coerce.May(c) || coerce.IsId(c) || c[0].Proj != 0 || c[0].Inj {
				t.Errorf("P14.4: Wrap of %s = %s, %v, %v", name, coTold(c), in, ok)
			}
			continue
		}
		if c != nil || in != nil || ok {
			t.Errorf("P14.4: Wrap of %s = %s, %v, %v", name, coTold(c), in, ok)
		}
	}
	if c, in, ok := value.Wrap(nil); c != nil || in != nil || ok {
		t.Error("P14.4: Wrap of none:", c, in, ok)
	}
	// A cast around a middle hides it; a middle around a cast is seen, the cast being the inner value's.
	inner := casts(t, value.Nil(), "li", "l?")
	outer := coerced(t, inner, "l5?i")
	wantWrapped(t, "P14.4: a middle around a cast", of(outer, 0, api.OK), "l5?i", inner)
	if _, _, ok := value.Wrap(cast(t, outer, "li", "l?", 6)); ok {
		t.Error("P14.4: a cast around a middle")
	}
}

// At the limit of a coercion's height.
func TestCoerceAtTheLimit(t *testing.T) {
	deep := strings.Repeat("l", 63)
	v := coerced(t, value.Nil(), deep+"!i")
	wantWrapped(t, "P14.3: 64 high", of(v, 0, api.OK), deep+"!i", value.Nil())
	wantSame(t, "P14.3: 64 high, and back", of(value.Coerce(v, co(t, deep+"7?i"))), value.Nil())
	high := append(slices.Repeat([]api.Co{{Op: api.CoList, Head: 'l'}}, 64), api.Co{Op: api.CoBase, Head: 'i', Inj: true})
	wantError(t, "P14.3: 65 high", of(value.Coerce(value.Nil(), high)), api.ErrShape)
}
