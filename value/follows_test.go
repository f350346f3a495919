package value_test

import (
	"fmt"
	"slices"
	"strings"
	"testing"

	"culprit/api"
	"culprit/coerce"
	"culprit/value"
)

// way: how a value goes from a type to another one: by a cast, or by its coercion.
type way func(v value.Value, from, to string, label int64) answer

func byCasts(v value.Value, from, to string, label int64) answer {
	return of(value.Cast(v, from, to, label))
}

func byCoercions(v value.Value, from, to string, label int64) answer {
	c, e := coerce.Of(from, to, label)
	if e != api.OK {
		return answer{e: e}
	}
	return of(value.Coerce(v, c))
}

// recipe makes a value of a type; what is under ? in it is cast there by the way.
type recipe func(by way) value.Value

// valueOf deals a recipe of a value of a type. The code of a function, the cell of a box is the type by which it was made.
func (d *dice) valueOf(t string, deep int) recipe {
	switch t[0] {
	case 'i':
		n := int64(d.below(9))
		return func(way) value.Value { return value.Num(n) }
	case 't':
		return func(way) value.Value { return value.Text("a") }
	case 'b':
		b := d.coin()
		return func(way) value.Value { return value.Truth(b) }
	case '>':
		return func(way) value.Value { return value.Fun(t) }
	case 'x':
		return func(way) value.Value { return value.Box(t) }
	case ',':
		a, b := d.valueOf(partsOf(t)[0], deep-1), d.valueOf(partsOf(t)[1], deep-1)
		return func(by way) value.Value { return value.Pair(a(by), b(by)) }
	case 'l':
		if deep <= 0 || d.below(4) == 0 {
			return func(way) value.Value { return value.Nil() }
		}
		a, b := d.valueOf(partsOf(t)[0], deep-1), d.valueOf(t, deep-1)
		return func(by way) value.Value { return value.Cons(a(by), b(by)) }
	}
	from := "i"
	if deep > 0 {
		from = strings.Replace(d.typeWith(d.head(), 2*deep+1), "?", "b", d.below(2)) // now and then a ? in it
	}
	if from == "?" {
		from = "b"
	}
	in, label := d.valueOf(from, deep-1), d.label()
	return func(by way) value.Value { return by(in(by), from, "?", label).v }
}

// pack: one thing, come to by several ways: by casts first, by coercions one by one, and as one.
type pack []answer

func (p pack) told() string {
	var all []string
	for _, a := range p {
		all = append(all, a.told())
	}
	return strings.Join(all, " | ")
}

// values answers the values of a pack.
func (p pack) values() []value.Value {
	var all []value.Value
	for _, a := range p {
		all = append(all, a.v)
	}
	return all
}

// each does a thing to all values of a pack.
func (p pack) each(do func(value.Value) (value.Value, int64, api.Errno)) pack {
	var all pack
	for _, a := range p {
		all = append(all, of(do(a.v)))
	}
	return all
}

// made: the value of a recipe, by the ways of a pack.
func (p pack) made(r recipe) []value.Value {
	all := []value.Value{r(byCasts)}
	for range len(p) - 1 {
		all = append(all, r(byCoercions))
	}
	return all
}

// throughEach: a value of a recipe goes through all of a pack.
func (p pack) throughEach(r recipe, do func(v, x value.Value) (value.Value, int64, api.Errno)) pack {
	var all pack
	for i, x := range p.made(r) {
		all = append(all, of(do(p[i].v, x)))
	}
	return all
}

// alike: all of a pack, which are values of the type t, are blamed alike, or are alike in all of their parts.
func (d *dice) alike(t *testing.T, what string, p pack, typ string, deep int) {
	t.Helper()
	for _, a := range p {
		if a.e != p[0].e || a.label != p[0].label || (a.v == nil) != (p[0].v == nil) || a.e != api.OK && a.e != api.ErrBlame {
			t.Fatalf("what follows: %s, of the type %s: %s", what, typ, p.told())
		}
	}
	if p[0].e != api.OK {
		return
	}
	seen := value.Seen(p[0].v, 6)
	for i, v := range p.values() {
		if !slices.Equal(value.Seen(v, 6), seen) {
			t.Fatalf("what follows: %s, of the type %s: %s", what, typ, p.told())
		}
		if i > 0 {
			wantOnce(t, what, v)
		}
	}
	if slices.ContainsFunc(seen, func(o api.Obs) bool { return o.Kind == api.OFault }) {
		t.Fatalf("W6: %s, of the type %s: a part is stuck: %s", what, typ, p.told())
	}
	if deep > 0 {
		d.alikeInParts(t, what, p, typ, deep)
	}
}

func (d *dice) alikeInParts(t *testing.T, what string, p pack, typ string, deep int) {
	t.Helper()
	parts := partsOf(typ)
	part := func(name string, p pack, typ string) { t.Helper(); d.alike(t, name+" of "+what, p, typ, deep-1) }
	switch typ[0] {
	case '?':
		head := tagOf(t, p[0].v)
		part("what is in the tag", p.each(func(v value.Value) (value.Value, int64, api.Errno) {
			return value.Cast(v, "?", groundOf(head), 77)
		}), groundOf(head))
	case ',':
		part("First", p.each(value.First), parts[0])
		part("Second", p.each(value.Second), parts[1])
	case 'l':
		if none, _ := value.IsEmpty(p[0].v); !none {
			part("Head", p.each(value.Head), parts[0])
			part("Tail", p.each(value.Tail), typ)
		}
	case '>':
		made := d.madeBy(t, p, value.Code)
		part("Arg", p.throughEach(d.valueOf(parts[0], 3), value.Arg), partsOf(made)[0])
		part("Res", p.throughEach(d.valueOf(partsOf(made)[1], 3), value.Res), parts[1])
	case 'x':
		made := d.madeBy(t, p, value.Cell)
		part("Read", p.throughEach(d.valueOf(partsOf(made)[0], 3), value.Read), parts[0])
		part("Write", p.throughEach(d.valueOf(parts[0], 3), value.Write), partsOf(made)[0])
	}
}

// madeBy answers the type by which the function or the box under all wrappers was made.
func (d *dice) madeBy(t *testing.T, p pack, ask func(value.Value) (any, api.Errno)) string {
	t.Helper()
	made := ""
	for _, v := range p.values() {
		has, e := ask(v)
		if e != api.OK || made != "" && has != made {
			t.Fatalf("what follows: under the wrappers stands %v, %d; elsewhere %s", has, e, made)
		}
		made = has.(string)
	}
	return made
}

// wantOnce: a value that was coerced alone is wrapped once at most, and so is what is in its tags.
func wantOnce(t *testing.T, what string, v value.Value) {
	t.Helper()
	for v != nil {
		if value.Layers(v) > 1 {
			t.Fatalf("what follows: %s is wrapped %d times: %s", what, value.Layers(v), told(value.Seen(v, 5)))
		}
		if _, in, ok := value.Wrap(v); ok {
			v = in
		}
		inside := value.Value(nil)
		for _, head := range []byte(heads) {
			if x, _, e := value.Cast(v, "?", groundOf(head), 1); e == api.OK {
				inside = x
			}
		}
		v = inside
	}
}

// chainOf: the types and labels of casts, one behind the other.
type chainOf struct {
	types  []string
	labels []int64
}

func (c chainOf) String() string { return fmt.Sprint(c.types, c.labels) }

// go through all of them, one by one.
func (c chainOf) by(v value.Value, w way) answer {
	a := answer{v: v}
	for i := range c.labels {
		if a.e != api.OK {
			break
		}
		a = w(a.v, c.types[i], c.types[i+1], c.labels[i])
	}
	return a
}

// all of them as one coercion.
func (c chainOf) one(t *testing.T) []api.Co {
	t.Helper()
	all, _ := coerce.Of(c.types[0], c.types[0], 1)
	for i, label := range c.labels {
		next, _ := coerce.Of(c.types[i], c.types[i+1], label)
		var e api.Errno
		if all, e = coerce.Then(all, next); e != api.OK {
			t.Fatalf("%v: %d", c, e)
		}
	}
	return all
}

// wantAlike: one value, by all three ways.
func (d *dice) wantAlike(t *testing.T, c chainOf, r recipe, deep int) pack {
	t.Helper()
	p := pack{c.by(r(byCasts), byCasts), c.by(r(byCoercions), byCoercions), of(value.Coerce(r(byCoercions), c.one(t)))}
	d.alike(t, c.String(), p, c.types[len(c.types)-1], deep)
	return p
}

// What is cast by cast, and what is coerced, one by one or as one, is seen alike, and blames the same label, in all of its parts.
func TestWaysAreAlike(t *testing.T) {
	var d dice = 20
	blamed, partly := 0, 0
	for range 15000 {
		c := chainOf{types: d.chain(d.typeOf(1+d.below(9)), 1+d.below(5))}
		if strings.Count(strings.Join(c.types, ""), "x") > 12 {
			continue
		}
		for range len(c.types) - 1 {
			c.labels = append(c.labels, d.label())
		}
		p := d.wantAlike(t, c, d.valueOf(c.types[0], 3), 5)
		switch {
		case p[0].e == api.ErrBlame:
			blamed++
		case strings.Contains(p[0].told(), "blame"):
			partly++
		}
	}
	if blamed < 500 || partly < 100 {
		t.Errorf("only %d were blamed, only %d in a part", blamed, partly)
	}
}

// All short types, two casts and three, each with some values.
func TestShortWaysAreAlike(t *testing.T) {
	var d dice = 21
	all := allTypes(3)
	for _, from := range all {
		for _, by := range all {
			if !consistent(from, by) {
				continue
			}
			for _, to := range all {
				if !consistent(by, to) {
					continue
				}
				d.wantAlike(t, chainOf{[]string{from, by, to}, []int64{1, -2}}, d.valueOf(from, 2), 3)
				if next := all[d.below(len(all))]; consistent(to, next) {
					d.wantAlike(t, chainOf{[]string{from, by, to, next}, []int64{1, 2, 3}}, d.valueOf(from, 3), 3)
				}
			}
		}
	}
}

// By hand: each kind, there and back, and to another one.
func TestSomeWaysAreAlike(t *testing.T) {
	var d dice = 22
	for _, row := range []struct {
		types string
		want  string
	}{
		{"i ? i", "7"},
		{"i ? b", "blame 2"},
		{"i ? ? b", "blame 3"},
		{",ii ,?? ,ib", "pair 7 blame:2"},
		{",ii ? ,?? ,ib", "pair 7 blame:3"},
		{",ii ? li", "blame 2"},
		{"li l? lb l? li", "cons blame:2 empty"},
		{"l,ii l? l,?b l?", "cons pair 7 blame:2 empty"},
		{">ii >?? >bb", "fun"},
		{">ii ? >bb ? >ii", "fun"},
		{"xi x? xb", "box"},
	} {
		c := chainOf{types: strings.Fields(row.types)}
		for i := range len(c.types) - 1 {
			c.labels = append(c.labels, int64(i+1))
		}
		r := func(way) value.Value { return plainOf(c.types[0]) }
		for range 20 {
			if got := d.wantAlike(t, c, r, 6)[0].told(); got != row.want {
				t.Errorf("what follows: %s: %s; want %s", row.types, got, row.want)
			}
		}
	}
}

// plainOf: a value of a static type.
func plainOf(t string) value.Value {
	switch t[0] {
	case ',':
		return value.Pair(plainOf(partsOf(t)[0]), plainOf(partsOf(t)[1]))
	case 'l':
		return value.Cons(plainOf(partsOf(t)[0]), value.Nil())
	case '>':
		return value.Fun(t)
	case 'x':
		return value.Box(t)
	}
	return value.Num(7)
}

// Then(c, d) does to a value what c and then d do to it (chapter 13), whatever coercions they are.
func TestTwoCoercionsAsOne(t *testing.T) {
	var d dice = 23
	for range 15000 {
		types := d.chain(d.typeOf(1+d.below(9)), 2)
		if strings.Count(strings.Join(types, ""), "x") > 8 {
			continue
		}
		c, e := d.step(types[0], types[1]), d.step(types[1], types[2])
		both, err := coerce.Then(c, e)
		if err != api.OK {
			t.Fatalf("%s, %s: %d", coTold(c), coTold(e), err)
		}
		v := d.valueOf(types[0], 3)(byCoercions)
		one := of(value.Coerce(v, c))
		if one.e == api.OK {
			one = of(value.Coerce(one.v, e))
		}
		d.alikeCoerced(t, coTold(c)+", then "+coTold(e), pack{one, of(value.Coerce(v, both))}, types[2])
	}
}

// alikeCoerced: as alike, of two that were both coerced.
func (d *dice) alikeCoerced(t *testing.T, what string, p pack, typ string) {
	t.Helper()
	if p[0].e == api.OK {
		wantOnce(t, what, p[0].v)
	}
	d.alike(t, what, p, typ, 5)
}

// A value that goes over a border and back many times is wrapped once at most, and no higher.
func TestWrappedOnceAtMost(t *testing.T) {
	there, _ := coerce.Of(">,iili", "?", 1)
	back, _ := coerce.Of("?", ">,?ili", 2)
	again, _ := coerce.Of(">,?ili", ">,iili", 3)
	v := value.Fun("f")
	for range 500 {
		for _, c := range [][]api.Co{there, back, again} {
			next := of(value.Coerce(v, c))
			if next.e != api.OK {
				t.Fatal(next.e)
			}
			v = next.v
			wantOnce(t, "a function", v)
			if m, _, ok := value.Wrap(v); ok && coerce.Height(m) > 3 {
				t.Fatalf("what follows: a wrapper of the height %d", coerce.Height(m))
			}
		}
	}
	// Of lists each rest, too.
	l := listOf(50)
	for range 50 {
		l = coerced(t, l, "l!i", "l7?i", "l!i", "l8?!i")
		wantOnce(t, "a list", l)
		next := of(value.Tail(l))
		if next.e != api.OK {
			t.Fatal(next.e)
		}
		wantOnce(t, "a rest", next.v)
		l = coerced(t, next.v, "l9?i")
	}
	if none, e := value.IsEmpty(l); !none || e != api.OK {
		t.Error("what follows: not at the end:", none, e)
	}
}
