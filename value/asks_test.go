package value_test

import (
	"strings"
	"testing"

	"culprit/api"
	"culprit/value"
)

// P14.5: AsNum, AsText, AsTruth of every kind: only bare ones are such.
func TestAsBases(t *testing.T) {
	all := kinds(t)
	all["none"] = nil
	for name, v := range all {
		n, e := value.AsNum(v)
		if want := name == "a number"; want != (e == api.OK) || n != map[bool]int64{true: 5}[want] || !want && e != api.ErrStuck {
			t.Errorf("P14.5: AsNum of %s = %d, %d", name, n, e)
		}
		s, e := value.AsText(v)
		if want := name == "a text"; want != (e == api.OK) || s != map[bool]string{true: "a"}[want] || !want && e != api.ErrStuck {
			t.Errorf("P14.5: AsText of %s = %q, %d", name, s, e)
		}
		b, e := value.AsTruth(v)
		if want := name == "a truth"; want != (e == api.OK) || b != want || !want && e != api.ErrStuck {
			t.Errorf("P14.5: AsTruth of %s = %v, %d", name, b, e)
		}
	}
	// A number under a wrapper is none.
	for _, v := range []value.Value{cast(t, value.Num(1), "li", "l?", 1), coerced(t, value.Num(1), "l!i"), tag(t, value.Num(1), "i")} {
		if n, e := value.AsNum(v); n != 0 || e != api.ErrStuck {
			t.Error("P14.5: AsNum of a number that is wrapped or tagged:", n, e)
		}
	}
}

// P14.5: IsEmpty, Code, Cell of every kind, through wrappers.
func TestAsksUnderWrappers(t *testing.T) {
	all := kinds(t)
	all["none"] = nil
	for name, v := range all {
		about := func(what string) bool { return strings.HasPrefix(name, what) && !strings.Contains(name, "tagged") }
		none, e := value.IsEmpty(v)
		switch isNone, isList := about("the empty list"), about("a list"); {
		case (isNone || isList) && (none != isNone || e != api.OK), !isNone && !isList && (none || e != api.ErrStuck):
			t.Errorf("P14.5: IsEmpty of %s = %v, %d", name, none, e)
		}
		code, e := value.Code(v)
		if about("a function") && (code != "code" || e != api.OK) || !about("a function") && (code != nil || e != api.ErrStuck) {
			t.Errorf("P14.5: Code of %s = %v, %d", name, code, e)
		}
		cell, e := value.Cell(v)
		if about("a box") && (cell != "cell" || e != api.OK) || !about("a box") && (cell != nil || e != api.ErrStuck) {
			t.Errorf("P14.5: Cell of %s = %v, %d", name, cell, e)
		}
	}
}

// The wrappers of each head, as casts and as middles.
func wrapped(t *testing.T, v value.Value, head byte, byCast bool) value.Value {
	t.Helper()
	if byCast {
		return cast(t, v, groundOf(head), string(rune(head))+strings.Repeat("i", arity(head)), 3)
	}
	return coerced(t, v, map[byte]string{'>': ">!i3?i", ',': ",3?i3?i", 'l': "l3?i", 'x': "x3?i!i"}[head])
}

// P14.5: one of the wrappers is of another head: inside, in the middle, outside.
func TestAsksThroughOtherWrappers(t *testing.T) {
	asks := map[byte]func(value.Value) api.Errno{
		'l': func(v value.Value) api.Errno {
			none, e := value.IsEmpty(v)
			if none && e != api.OK {
				t.Error("P14.5: IsEmpty is true beside an error")
			}
			return e
		},
		'>': func(v value.Value) api.Errno {
			code, e := value.Code(v)
			if (code == nil) != (e != api.OK) {
				t.Error("P14.5: Code:", code, e)
			}
			return e
		},
		'x': func(v value.Value) api.Errno {
			cell, e := value.Cell(v)
			if (cell == nil) != (e != api.OK) {
				t.Error("P14.5: Cell:", cell, e)
			}
			return e
		},
	}
	inside := map[byte]value.Value{'l': value.Nil(), '>': value.Fun("code"), 'x': value.Box("cell")}
	for head, ask := range asks {
		// By turns a cast and a middle, which are not merged.
		for _, other := range []byte(">,lx") {
			for at := range 5 {
				v := inside[head]
				for i := range 5 {
					if i == at {
						v = wrapped(t, v, other, i%2 == 0)
					} else {
						v = wrapped(t, v, head, i%2 == 0)
					}
				}
				want := api.ErrStuck
				if other == head {
					want = api.OK
				}
				if e := ask(v); e != want {
					t.Errorf("P14.5: asked for %c through five wrappers, that at %d of the head %c: %d", head, at, other, e)
				}
			}
		}
		// Of the right wrappers around another thing, and around a tagged one.
		for name, v := range kinds(t) {
			right := ask(v) == api.OK
			for _, byCast := range []bool{true, false} {
				if strings.Contains(name, "middle") && !byCast {
					continue // they need not meet
				}
				if e := ask(wrapped(t, v, head, byCast)); (e == api.OK) != right || e != api.OK && e != api.ErrStuck {
					t.Errorf("P14.5: asked for %c of %s in one more wrapper: %d", head, name, e)
				}
			}
			wantTagged := ask(wrapped(t, tag(t, v, groundOf(head)), head, true))
			if wantTagged != api.ErrStuck {
				t.Errorf("P14.5: asked for %c of %s, tagged, in a wrapper: %d", head, name, wantTagged)
			}
		}
	}
}
