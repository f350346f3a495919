package value_test

import (
	"strings"
	"testing"

	"culprit/api"
	"culprit/value"
)

type through struct {
	name string
	head byte
	call func(v, x value.Value) (value.Value, int64, api.Errno)
	bare value.Value
}

func throughs() []through {
	return []through{{"Arg", '>', value.Arg, value.Fun("f")}, {"Res", '>', value.Res, value.Fun("f")}, {"Read", 'x', value.Read, value.Box("b")}, {"Write", 'x', value.Write, value.Box("b")}}
}

// P14.7: through no wrapper: as it is.
func TestThroughBareOnes(t *testing.T) {
	for _, k := range throughs() {
		for name, x := range kinds(t) {
			wantSame(t, "P14.7: "+k.name+" of "+name, of(k.call(k.bare, x)), x)
		}
	}
}

// P14.7: Code's error, Cell's error, then ErrStuck of none.
func TestThroughOthers(t *testing.T) {
	all := kinds(t)
	all["none"] = nil
	for name, v := range all {
		for _, k := range throughs() {
			right := strings.HasPrefix(name, map[byte]string{'>': "a function", 'x': "a box"}[k.head]) && !strings.Contains(name, "tagged")
			wantStuck(t, "P14.7: "+k.name+" of none through "+name, of(k.call(v, nil)))
			if got := of(k.call(v, value.Num(1))); !right {
				wantStuck(t, "P14.7: "+k.name+" through "+name, got)
			}
		}
	}
	for _, k := range throughs() {
		for _, other := range []byte(">,lx") {
			for _, byCast := range []bool{true, false} {
				if other != k.head {
					wantStuck(t, "P14.7: "+k.name+" through a wrapper of the head "+string(rune(other)), of(k.call(wrapped(t, k.bare, other, byCast), value.Num(1))))
					inner := wrapped(t, wrapped(t, k.bare, other, byCast), k.head, !byCast)
					wantStuck(t, "P14.7: "+k.name+" through two wrappers, one of another head", of(k.call(inner, value.Num(1))))
				}
				wantStuck(t, "P14.7: "+k.name+" of none, wrapped", of(k.call(wrapped(t, k.bare, k.head, byCast), nil)))
			}
		}
	}
}

// P14.7: one cast, whichever types: the parameter and what is set go the other way, with the label turned round.
func TestThroughOneCast(t *testing.T) {
	one, unknown := value.Num(1), tag(t, value.Num(1), "i")
	wrong := tag(t, value.Text("a"), "t")
	out, in := cast(t, value.Fun("f"), ">ib", ">??", 4), cast(t, value.Fun("f"), ">??", ">ib", 4)
	wantSame(t, "P14.7: Arg from ? to i", of(value.Arg(out, unknown)), one)
	wantBlame(t, "P14.7: Arg from ? to i", of(value.Arg(out, wrong)), -4)
	wantStuck(t, "P14.7: Arg from ? to i, of no tag", of(value.Arg(out, one)))
	got := of(value.Arg(in, one))
	if got.e != api.OK || tagOf(t, got.v) != 'i' {
		t.Error("P14.7: Arg from i to ?:", got)
	}
	got = of(value.Res(out, value.Truth(true)))
	if got.e != api.OK || tagOf(t, got.v) != 'b' {
		t.Error("P14.7: Res from b to ?:", got)
	}
	wantSame(t, "P14.7: Res from ? to b", of(value.Res(in, tag(t, value.Truth(true), "b"))), value.Truth(true))
	wantBlame(t, "P14.7: Res from ? to b", of(value.Res(in, wrong)), 4)
	wantStuck(t, "P14.7: Res from ? to b, of no tag", of(value.Res(in, one)))
	out, in = cast(t, value.Box("b"), "xi", "x?", 4), cast(t, value.Box("b"), "x?", "xi", 4)
	got = of(value.Read(out, one))
	if got.e != api.OK || tagOf(t, got.v) != 'i' {
		t.Error("P14.7: Read from i to ?:", got)
	}
	wantSame(t, "P14.7: Read from ? to i", of(value.Read(in, unknown)), one)
	wantBlame(t, "P14.7: Read from ? to i", of(value.Read(in, wrong)), 4)
	wantStuck(t, "P14.7: Read from ? to i, of no tag", of(value.Read(in, one)))
	wantSame(t, "P14.7: Write from ? to i", of(value.Write(out, unknown)), one)
	wantBlame(t, "P14.7: Write from ? to i", of(value.Write(out, wrong)), -4)
	wantStuck(t, "P14.7: Write from ? to i, of no tag", of(value.Write(out, one)))
	got = of(value.Write(in, one))
	if got.e != api.OK || tagOf(t, got.v) != 'i' {
		t.Error("P14.7: Write from i to ?:", got)
	}
	// Functions of functions: turned round twice.
	twice := cast(t, value.Fun("f"), ">>iii", ">>??i", 4)
	g := of(value.Arg(twice, value.Fun("g")))
	wantBlame(t, "P14.7: the argument's result", of(value.Res(g.v, wrong)), -4)
	if got := of(value.Arg(g.v, one)); got.e != api.OK || tagOf(t, got.v) != 'i' {
		t.Error("P14.7: the argument's argument:", got)
	}
	back := cast(t, value.Fun("f"), ">>??i", ">>iii", 4)
	wantBlame(t, "P14.7: the argument's argument", of(value.Arg(of(value.Arg(back, value.Fun("g"))).v, wrong)), 4)
}

// P14.7: one middle: the kids, by their numbers.
func TestThroughOneMiddle(t *testing.T) {
	one := value.Num(1)
	unknown := tag(t, one, "i")
	for _, row := range []struct{ text, what, given, want string }{
		{">-5?i!i", "Arg", "unknown", "1"},
		{">-5?b!i", "Arg", "unknown", "blame -5"},
		{">-5?i!i", "Arg", "one", "error 32"},
		{">#6ibi", "Arg", "one", "blame 6"},
		{">i#6ib", "Arg", "one", "1"},
		{">#6ibi", "Res", "one", "1"},
		{">i#-6ib", "Res", "one", "blame -6"},
		{">-5?i!i", "Res", "one", "1"},
		{">!i5?b", "Res", "unknown", "blame 5"},
		{">!i5?b", "Res", "one", "error 32"},
		{"x#2ib#-1bi", "Read", "one", "blame 2"},
		{"x#2ib#-1bi", "Write", "one", "blame -1"},
		{"xi#-1bi", "Read", "one", "1"},
		{"x#2ibi", "Write", "one", "1"},
		{"x5?i!i", "Read", "unknown", "1"},
		{"x5?b!i", "Read", "unknown", "blame 5"},
		{"x5?i!i", "Read", "one", "error 32"},
		{"x!i-5?b", "Write", "unknown", "blame -5"},
		{"x!i-5?i", "Write", "one", "error 32"},
	} {
		for _, k := range throughs() {
			if k.name != row.what {
				continue
			}
			x := map[string]value.Value{"one": one, "unknown": unknown}[row.given]
			if got := of(k.call(coerced(t, k.bare, row.text), x)).told(); got != row.want {
				t.Errorf("P14.7: %s of %s through %s = %s; want %s", row.what, row.given, row.text, got, row.want)
			}
		}
	}
	// Tags: what a kid with Inj gives.
	for _, row := range []struct{ text, what string }{{">!i5?b", "Arg"}, {">-5?i!i", "Res"}, {"x!i-5?i", "Read"}, {"x5?i!i", "Write"}} {
		for _, k := range throughs() {
			if k.name != row.what {
				continue
			}
			if got := of(k.call(coerced(t, k.bare, row.text), one)); got.e != api.OK || tagOf(t, got.v) != 'i' {
				t.Errorf("P14.7: %s through %s is not tagged: %d", row.what, row.text, got.e)
			}
		}
	}
	// The second kid begins where the first one ends.
	f := coerced(t, value.Fun("f"), ">,l!ix5?i!il!i")
	wantWrapped(t, "P14.7: the first kid", of(value.Arg(f, one)), ",l!ix5?i!i", one)
	wantWrapped(t, "P14.7: the second kid", of(value.Res(f, one)), "l!i", one)
	b := coerced(t, value.Box("b"), "x>l!i,!i!il!i")
	wantWrapped(t, "P14.7: the first kid", of(value.Read(b, one)), ">l!i,!i!i", one)
	wantWrapped(t, "P14.7: the second kid", of(value.Write(b, one)), "l!i", one)
}

// P14.7: several wrappers: in to it the outermost comes first, out of it the innermost; the first blame ends it.
func TestThroughSeveralCasts(t *testing.T) {
	text := tag(t, value.Text("a"), "t")
	// Each of the casts 2 and 4 would blame a text, on the way out; 1 and 3 on the way in.
	f := casts(t, value.Fun("f"), ">ii", ">??", ">ii", ">??", ">i?")
	wantBlame(t, "P14.7: Arg, the outermost first", of(value.Arg(casts(t, value.Fun("f"), ">ii", ">??", ">ii", ">??"), text)), -3)
	wantBlame(t, "P14.7: Res, the innermost first", of(value.Res(casts(t, value.Fun("f"), ">??", ">ii", ">??", ">ii"), text)), 1)
	wantSame(t, "P14.7: Arg through four", of(value.Arg(f, value.Num(7))), value.Num(7))
	got := of(value.Res(f, value.Num(7)))
	if got.e != api.OK || tagOf(t, got.v) != 'i' {
		t.Error("P14.7: Res through four:", got)
	}
	wantBlame(t, "P14.7: Write, the outermost first", of(value.Write(casts(t, value.Box("b"), "xi", "x?", "xi", "x?"), text)), -3)
	wantBlame(t, "P14.7: Read, the innermost first", of(value.Read(casts(t, value.Box("b"), "x?", "xi", "x?", "xi"), text)), 1)
	// Heads that are unlike on the way.
	b := casts(t, value.Box("b"), "xi", "x?", "xb")
	wantBlame(t, "P14.7: Read of an int as a truth", of(value.Read(b, value.Num(1))), 2)
	wantBlame(t, "P14.7: Write of a truth as an int", of(value.Write(b, value.Truth(true))), -1)
	g := casts(t, value.Fun("f"), ">ii", ">??", ">bb")
	wantBlame(t, "P14.7: Arg of a truth as an int", of(value.Arg(g, value.Truth(true))), -1)
	wantBlame(t, "P14.7: Res of an int as a truth", of(value.Res(g, value.Num(1))), 2)
	// What is stuck ends it as well as what is blamed: whichever comes first.
	h := casts(t, value.Fun("f"), ">ii", ">??", ">ii", ">??")
	wantStuck(t, "P14.7: Arg of no tag", of(value.Arg(h, value.Num(1))))
	wantStuck(t, "P14.7: Res of no tag", of(value.Res(casts(t, value.Fun("f"), ">??", ">ii", ">??", ">bb"), value.Num(1))))
	wantBlame(t, "P14.7: Res, blamed ahead of stuck", of(value.Res(casts(t, value.Fun("f"), ">??", ">?i", ">??", ">?b"), text)), 1)
}

// P14.7: casts and middles by turns.
func TestThroughCastsAndMiddles(t *testing.T) {
	text, number := tag(t, value.Text("a"), "t"), tag(t, value.Num(1), "i")
	f := value.Fun("f")
	f = cast(t, f, ">ii", ">??", 1)
	f = coerced(t, f, ">!i2?i")
	f = cast(t, f, ">ii", ">??", 3)
	f = coerced(t, f, ">-9?!i4?!i")
	wantBlame(t, "P14.7: Arg, the outermost first", of(value.Arg(f, text)), -9)
	wantSame(t, "P14.7: Arg through four", of(value.Arg(f, number)), value.Num(1))
	got := of(value.Res(f, value.Num(1)))
	if got.e != api.OK || tagOf(t, got.v) != 'i' {
		t.Error("P14.7: Res through four:", got)
	}
	// Inside a middle that fails, then a cast: the innermost first on the way out.
	g := cast(t, coerced(t, value.Fun("f"), ">i#5ib"), ">i?", ">ib", 6)
	wantBlame(t, "P14.7: Res, the innermost first", of(value.Res(g, value.Num(1))), 5)
	h := coerced(t, casts(t, value.Fun("f"), ">??", ">?b"), ">?#5bi")
	wantBlame(t, "P14.7: Res, the innermost first", of(value.Res(h, number)), 1)
	wantBlame(t, "P14.7: Res, the outer one then", of(value.Res(h, tag(t, value.Truth(true), "b"))), 5)
	b := cast(t, coerced(t, value.Box("b"), "x#5ib#-6bi"), "xi", "x?", 7)
	wantBlame(t, "P14.7: Read, the innermost first", of(value.Read(b, value.Num(1))), 5)
	wantBlame(t, "P14.7: Write, the outermost first", of(value.Write(b, text)), -7)
	wantBlame(t, "P14.7: Write, the inner one then", of(value.Write(b, number)), -6)
}

// Very many wrappers: all are gone through, none too deep for a call.
func TestThroughManyWrappers(t *testing.T) {
	const many = 1 << 17
	v := map[byte]value.Value{'>': value.Fun("f"), 'x': value.Box("b"), ',': value.Pair(value.Num(1), value.Num(2)), 'l': value.Cons(value.Num(1), value.Nil())}
	known := map[byte]string{'>': ">ii", 'x': "xi", ',': ",ii", 'l': "li"}
	for head, one := range v {
		for range many / 2 {
			one, _, _ = value.Cast(one, known[head], groundOf(head), 1)
			one, _, _ = value.Cast(one, groundOf(head), known[head], 2)
		}
		v[head] = one
	}
	for _, k := range throughs() {
		wantSame(t, "P14.7: "+k.name+" through many", of(k.call(v[k.head], value.Num(7))), value.Num(7))
	}
	wantSame(t, "P14.6: First through many", of(value.First(v[','])), value.Num(1))
	wantSame(t, "P14.6: Second through many", of(value.Second(v[','])), value.Num(2))
	wantSame(t, "P14.6: Head through many", of(value.Head(v['l'])), value.Num(1))
	wantValue(t, "P14.6: Tail through many", of(value.Tail(v['l'])), "empty")
	wantValue(t, "P14.8: Seen through many", of(v['l'], 0, api.OK), "cons 1 empty")
	wantValue(t, "P14.8: Seen through many", of(v[','], 0, api.OK), "pair 1 2")
	// Tags in tags, and wrappers between them.
	deep := value.Pair(value.Num(1), value.Num(2))
	for range many / 2 {
		deep = cast(t, tag(t, deep, "i"), "li", "l?", 5)
	}
	wantValue(t, "P14.8: Seen through many tags", of(deep, 0, api.OK), "pair 1 2")
}
