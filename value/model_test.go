package value_test

import (
	"slices"
	"strconv"
	"testing"

	"culprit/api"
	"culprit/coerce"
	"culprit/value"
)

// model is a value as the chapter speaks of it, in the plainest way: what is done to it calls itself, wrapper by wrapper.
type model struct {
	kind     string // num text truth fun box pair nil cons tag cast middle
	n        int64
	s        string
	has      any
	a, b     *model // halves; the first value and the rest; a is what is tagged or wrapped
	head     byte
	from, to string
	label    int64
	c        []api.Co
}

type modelAnswer struct {
	m     *model
	label int64
	e     api.Errno
}

func good(m *model) modelAnswer      { return modelAnswer{m: m} }
func bad(e api.Errno) modelAnswer    { return modelAnswer{e: e} }
func blame(label int64) modelAnswer  { return modelAnswer{label: label, e: api.ErrBlame} }
func (m *model) is(kind string) bool { return m != nil && m.kind == kind }
func (m *model) wrapped() bool       { return m.is("cast") || m.is("middle") }
func (a modelAnswer) then(next func(*model) modelAnswer) modelAnswer {
	if a.e != api.OK {
		return a
	}
	return next(a.m)
}

func (m *model) wrapHead() byte {
	if m.kind == "cast" {
		return m.from[0]
	}
	return m.c[0].Head
}

// kidOf answers a kid of a coercion, cut out by what coerce.May takes for a whole one.
func kidOf(c []api.Co, number int) []api.Co {
	end := 2
	for !fits(c[1:end]) {
		end++
	}
	if number == 0 {
		return c[1:end]
	}
	return c[end:]
}

// fits tells whether nodes are one part, by counting what is missing.
func fits(c []api.Co) bool {
	missing := 1
	for _, n := range c {
		missing += map[int8]int{api.CoFun: 2, api.CoPair: 2, api.CoBox: 2, api.CoList: 1}[n.Op] - 1
	}
	return missing == 0
}

func modelCast(m *model, from, to string, label int64) modelAnswer {
	if _, e := coerce.Of(from, to, label); e != api.OK {
		return bad(e)
	}
	if m == nil {
		return bad(api.ErrStuck)
	}
	if from == to {
		return good(m)
	}
	if to == "?" {
		return modelCast(m, from, groundOf(from[0]), label).then(func(m *model) modelAnswer {
			return good(&model{kind: "tag", head: from[0], a: m})
		})
	}
	if from == "?" {
		if m.kind != "tag" {
			return bad(api.ErrStuck)
		}
		if m.head != to[0] {
			return blame(label)
		}
		return modelCast(m.a, groundOf(to[0]), to, label)
	}
	return good(&model{kind: "cast", from: from, to: to, label: label, a: m})
}

func modelCoerce(m *model, c []api.Co) modelAnswer {
	if !coerce.May(c) {
		return bad(api.ErrShape)
	}
	if m == nil {
		return bad(api.ErrStuck)
	}
	if c[0].Op == api.CoAny {
		return good(m)
	}
	if c[0].Proj != 0 {
		if m.kind != "tag" {
			return bad(api.ErrStuck)
		}
		if m.head != c[0].Head {
			return blame(c[0].Proj)
		}
		m = m.a
	}
	if c[0].Op == api.CoFail {
		return blame(c[0].Label)
	}
	if c[0].Op != api.CoBase {
		middle := slices.Clone(c)
		middle[0].Proj, middle[0].Inj = 0, false
		a := modelMerge(m, middle)
		if a.e != api.OK {
			return a
		}
		m = a.m
	}
	if c[0].Inj {
		m = &model{kind: "tag", head: c[0].Head, a: m}
	}
	return good(m)
}

func modelMerge(m *model, middle []api.Co) modelAnswer {
	switch {
	case coerce.IsId(middle):
		return good(m)
	case m.kind != "middle":
		return good(&model{kind: "middle", c: middle, a: m})
	}
	both, e := coerce.Then(m.c, middle)
	switch {
	case e != api.OK:
		return bad(api.ErrStuck)
	case coerce.IsId(both):
		return good(m.a)
	}
	return good(&model{kind: "middle", c: both, a: m.a})
}

// out does to x, a part of what is in the wrapper m, what m says of its part and kid; in the same the other way.
func (m *model) out(x *model, part, kid int) modelAnswer {
	if m.kind == "cast" {
		return modelCast(x, partsOf(m.from)[part], partsOf(m.to)[part], m.label)
	}
	return modelCoerce(x, kidOf(m.c, kid))
}

func (m *model) in(x *model, part, kid int) modelAnswer {
	if m.kind == "cast" {
		return modelCast(x, partsOf(m.to)[part], partsOf(m.from)[part], -m.label)
	}
	return modelCoerce(x, kidOf(m.c, kid))
}

func modelHalf(m *model, number int) modelAnswer {
	switch {
	case m.is("pair"):
		x := m.a
		if number == 1 {
			x = m.b
		}
		if x == nil {
			return bad(api.ErrStuck)
		}
		return good(x)
	case m.wrapped() && m.wrapHead() == ',':
		return modelHalf(m.a, number).then(func(x *model) modelAnswer { return m.out(x, number, number) })
	}
	return bad(api.ErrStuck)
}

// under answers what stands under the wrappers, if they are all of that head (0: of any).
func under(m *model, head byte) *model {
	for m.wrapped() {
		if head != 0 && m.wrapHead() != head {
			return nil
		}
		m = m.a
	}
	return m
}

func modelListError(m *model) api.Errno {
	switch l := under(m, 'l'); {
	case l.is("nil"):
		return api.ErrGone
	case l.is("cons"):
		return api.OK
	}
	return api.ErrStuck
}

func modelHead(m *model) modelAnswer {
	switch e := modelListError(m); {
	case e != api.OK:
		return bad(e)
	case m.kind != "cons":
		return modelHead(m.a).then(func(x *model) modelAnswer { return m.out(x, 0, 0) })
	case m.a == nil:
		return bad(api.ErrStuck)
	}
	return good(m.a)
}

func modelTail(m *model) modelAnswer {
	switch e := modelListError(m); {
	case e != api.OK:
		return bad(e)
	case m.kind == "cast":
		return modelTail(m.a).then(func(x *model) modelAnswer { return modelCast(x, m.from, m.to, m.label) })
	case m.kind == "middle":
		return modelTail(m.a).then(func(x *model) modelAnswer { return modelCoerce(x, m.c) })
	case m.b == nil:
		return bad(api.ErrStuck)
	}
	return good(m.b)
}

// modelThrough: Arg and Write go in, Res and Read out.
func modelThrough(m, x *model, kind string, head byte, part, kid int, in bool) modelAnswer {
	if !under(m, head).is(kind) || x == nil {
		return bad(api.ErrStuck)
	}
	if m.kind == kind {
		return good(x)
	}
	inner := func(x *model) modelAnswer { return modelThrough(m.a, x, kind, head, part, kid, in) }
	if in {
		return m.in(x, part, kid).then(inner)
	}
	return inner(x).then(func(x *model) modelAnswer { return m.out(x, part, kid) })
}

// modelSeen puts what is seen behind what is told; coming are the nodes that are certain to come behind this one.
func modelSeen(told []api.Obs, m *model, depth, coming int) []api.Obs {
	add := func(kind int8, n int64, s string) []api.Obs { return append(told, api.Obs{Kind: kind, N: n, S: s}) }
	core := under(m, 0)
	switch {
	case depth < 1:
		return add(api.ODeep, 0, "")
	case core == nil:
		return add(api.OFault, 32, "")
	}
	switch core.kind {
	case "num":
		return add(api.ONum, core.n, "")
	case "text":
		return add(api.OText, 0, core.s)
	case "truth":
		return add(api.OTruth, core.n, "")
	case "fun":
		return add(api.OFun, 0, "")
	case "box":
		return add(api.OBox, 0, "")
	case "nil":
		return add(api.OEmpty, 0, "")
	case "tag":
		return modelSeen(told, core.a, depth, coming)
	}
	if len(told)+1+coming+2 > api.MaxObs {
		return add(api.ODeep, 0, "")
	}
	if core.kind == "pair" {
		told = add(api.OPair, 0, "")
		told = modelPart(told, modelHalf(m, 0), depth-1, coming+1)
		return modelPart(told, modelHalf(m, 1), depth-1, coming)
	}
	told = add(api.OCons, 0, "")
	told = modelPart(told, modelHead(m), depth-1, coming+1)
	return modelPart(told, modelTail(m), depth-1, coming)
}

func modelPart(told []api.Obs, a modelAnswer, depth, coming int) []api.Obs {
	switch a.e {
	case api.OK:
		return modelSeen(told, a.m, depth, coming)
	case api.ErrBlame:
		return append(told, api.Obs{Kind: api.OBlame, N: a.label})
	}
	return append(told, api.Obs{Kind: api.OFault, N: 32})
}

// twin: a value, and its model.
type twin struct {
	v value.Value
	m *model
}

// what tells how the model is made.
func (m *model) what() string {
	if m == nil {
		return "none"
	}
	switch m.kind {
	case "num", "truth":
		return m.kind + " " + strconv.FormatInt(m.n, 10)
	case "text":
		return strconv.Quote(m.s)
	case "tag":
		return "tag " + string(rune(m.head)) + " (" + m.a.what() + ")"
	case "cast":
		return "cast " + m.from + " " + m.to + " " + strconv.FormatInt(m.label, 10) + " (" + m.a.what() + ")"
	case "middle":
		return "middle " + coTold(m.c) + " (" + m.a.what() + ")"
	case "pair", "cons":
		return m.kind + "(" + m.a.what() + ", " + m.b.what() + ")"
	}
	return m.kind
}

// size of a model, so that what is dealt stays small.
func (m *model) size() int {
	if m == nil {
		return 1
	}
	if m.a == nil && m.b == nil {
		return 1
	}
	return 1 + len(m.c) + m.a.size() + m.b.size()
}

// wantTwins: a call's answer is its model's; the twins that come of it, if any.
func wantTwins(t *testing.T, what string, got answer, want modelAnswer) (twin, bool) {
	t.Helper()
	if got.e != want.e || got.label != want.label || (got.v == nil) != (want.m == nil) {
		t.Fatalf("%s = %v, %d, %d; want %s, %d, %d", what, got.v, got.label, got.e, want.m.what(), want.label, want.e)
	}
	return twin{got.v, want.m}, want.e == api.OK
}

// ask holds all questions of a value against its model's.
func (w twin) ask(t *testing.T, depths ...int) {
	t.Helper()
	for _, depth := range depths {
		if got, want := told(value.Seen(w.v, depth)), told(modelSeen(nil, w.m, depth, 0)); got != want {
			t.Fatalf("P14.8: Seen of %s with depth %d: %s; want %s", w.m.what(), depth, got, want)
		}
	}
	n, e := value.AsNum(w.v)
	if is := w.m.is("num"); is != (e == api.OK) || is && n != w.m.n || !is && (n != 0 || e != api.ErrStuck) {
		t.Fatalf("P14.5: AsNum of %s = %d, %d", w.m.what(), n, e)
	}
	s, e := value.AsText(w.v)
	if is := w.m.is("text"); is != (e == api.OK) || is && s != w.m.s || !is && (s != "" || e != api.ErrStuck) {
		t.Fatalf("P14.5: AsText of %s = %q, %d", w.m.what(), s, e)
	}
	b, e := value.AsTruth(w.v)
	if is := w.m.is("truth"); is != (e == api.OK) || is && b != (w.m.n == 1) || !is && (b || e != api.ErrStuck) {
		t.Fatalf("P14.5: AsTruth of %s = %v, %d", w.m.what(), b, e)
	}
	none, e := value.IsEmpty(w.v)
	l := under(w.m, 'l')
	if is := l.is("nil") || l.is("cons"); is != (e == api.OK) || none != l.is("nil") || !is && e != api.ErrStuck {
		t.Fatalf("P14.5: IsEmpty of %s = %v, %d", w.m.what(), none, e)
	}
	code, e := value.Code(w.v)
	f := under(w.m, '>')
	if is := f.is("fun"); is != (e == api.OK) || is && code != f.has || !is && (code != nil || e != api.ErrStuck) {
		t.Fatalf("P14.5: Code of %s = %v, %d", w.m.what(), code, e)
	}
	cell, e := value.Cell(w.v)
	x := under(w.m, 'x')
	if is := x.is("box"); is != (e == api.OK) || is && cell != x.has || !is && (cell != nil || e != api.ErrStuck) {
		t.Fatalf("P14.5: Cell of %s = %v, %d", w.m.what(), cell, e)
	}
	c, in, ok := value.Wrap(w.v)
	if is := w.m.is("middle"); is != ok || is && (!slices.Equal(c, w.m.c) || in == nil) || !is && (c != nil || in != nil) {
		t.Fatalf("P14.4: Wrap of %s = %s, %v, %v", w.m.what(), coTold(c), in, ok)
	}
}

// leaf deals a value without parts, or none.
func (d *dice) leaf() twin {
	n := int64(d.below(9))
	has := any(int(n))
	switch d.below(13) {
	case 0, 1, 2:
		return twin{value.Num(n), &model{kind: "num", n: n}}
	case 3:
		return twin{value.Text(strconv.Itoa(int(n))), &model{kind: "text", s: strconv.Itoa(int(n))}}
	case 4:
		return twin{value.Truth(n%2 == 1), &model{kind: "truth", n: n % 2}}
	case 5, 6, 7:
		return twin{value.Fun(has), &model{kind: "fun", has: has}}
	case 8, 9:
		return twin{value.Box(has), &model{kind: "box", has: has}}
	case 10, 11:
		return twin{value.Nil(), &model{kind: "nil"}}
	}
	return twin{}
}

// headFor deals a head that fits what is to be cast or coerced more often than not.
func (d *dice) headFor(m *model) byte {
	core := under(m, 0)
	if core == nil || d.below(8) == 0 {
		return letters[d.below(len(letters))]
	}
	if m.kind == "tag" && d.below(4) > 0 {
		return '?'
	}
	heads := map[string]byte{"num": 'i', "text": 't', "truth": 'b', "fun": '>', "box": 'x', "pair": ',', "nil": 'l', "cons": 'l', "tag": '?'}
	return heads[core.kind]
}

// ends deals two types to cast or coerce m between.
func (d *dice) ends(m *model) (from, to string) {
	from = d.typeWith(d.headFor(m), 1+d.below(8))
	if m.is("cast") && d.coin() {
		from = m.to
	}
	if m.is("tag") && d.coin() {
		return "?", d.typeWith(m.head, 1+d.below(8))
	}
	to = d.near(from)
	if d.below(30) == 0 {
		to = d.typeOf(5)
	}
	return from, to
}

// TestAgainstTheModel: many values, made of each other by all calls, fitting or not; each answer is held against the model's.
func TestAgainstTheModel(t *testing.T) {
	var d dice = 7
	for range 400 {
		all := []twin{d.leaf(), d.leaf(), d.leaf(), d.leaf()}
		for range 150 {
			w, x := all[d.below(len(all))], all[d.below(len(all))]
			if d.coin() {
				w = all[max(0, len(all)-1-d.below(4))] // so that things are piled up
			}
			next, ok := d.call(t, w, x)
			if !ok || next.m.size() > 60 {
				continue
			}
			next.ask(t, d.below(3), 3+d.below(4), 50)
			all = append(all, next)
		}
	}
}

// call deals one of the calls.
func (d *dice) call(t *testing.T, w, x twin) (twin, bool) {
	what := " of " + w.m.what() + " and " + x.m.what()
	switch d.below(24) {
	case 0:
		return d.leaf(), true
	case 1, 2:
		return twin{value.Pair(w.v, x.v), &model{kind: "pair", a: w.m, b: x.m}}, true
	case 3, 4:
		return twin{value.Cons(w.v, x.v), &model{kind: "cons", a: w.m, b: x.m}}, true
	case 5:
		return wantTwins(t, "P14.6: First"+what, of(value.First(w.v)), modelHalf(w.m, 0))
	case 6:
		return wantTwins(t, "P14.6: Second"+what, of(value.Second(w.v)), modelHalf(w.m, 1))
	case 7:
		return wantTwins(t, "P14.6: Head"+what, of(value.Head(w.v)), modelHead(w.m))
	case 8:
		return wantTwins(t, "P14.6: Tail"+what, of(value.Tail(w.v)), modelTail(w.m))
	case 9:
		return wantTwins(t, "P14.7: Arg"+what, of(value.Arg(w.v, x.v)), modelThrough(w.m, x.m, "fun", '>', 0, 0, true))
	case 10:
		return wantTwins(t, "P14.7: Res"+what, of(value.Res(w.v, x.v)), modelThrough(w.m, x.m, "fun", '>', 1, 1, false))
	case 11:
		return wantTwins(t, "P14.7: Read"+what, of(value.Read(w.v, x.v)), modelThrough(w.m, x.m, "box", 'x', 0, 0, false))
	case 12:
		return wantTwins(t, "P14.7: Write"+what, of(value.Write(w.v, x.v)), modelThrough(w.m, x.m, "box", 'x', 0, 1, true))
	}
	from, to := d.ends(w.m)
	label := d.label() * int64(min(1, d.below(40)))
	if len(from) > 30 || len(to) > 30 {
		return twin{}, false
	}
	if d.coin() {
		return wantTwins(t, "P14.2: Cast from "+from+" to "+to+what, of(value.Cast(w.v, from, to, label)), modelCast(w.m, from, to, label))
	}
	c := d.step(from, to)
	if w.m.is("middle") && d.coin() {
		if k := d.step(from, to); coerce.Meet(w.m.c, k) {
			c = k
		}
	}
	if d.below(40) == 0 && len(c) > 0 {
		c[d.below(len(c))].Head = letters[d.below(len(letters))]
	}
	return wantTwins(t, "P14.3: Coerce by "+coTold(c)+what, of(value.Coerce(w.v, c)), modelCoerce(w.m, c))
}

// Great trees, beyond what may be told, against the model.
func TestGreatTreesAgainstTheModel(t *testing.T) {
	var d dice = 9
	for range 60 {
		all := []twin{d.leaf(), d.leaf(), d.leaf()}
		for range 40 + d.below(60) {
			w, x := all[len(all)-1-d.below(min(len(all), 6))], all[len(all)-1-d.below(min(len(all), 3))]
			if d.coin() {
				w, x = x, w
			}
			if w.m.is("pair") && d.below(4) == 0 {
				if next, ok := wantTwins(t, "P14.2: Cast", of(value.Cast(w.v, ",??", ",?i", 5)), modelCast(w.m, ",??", ",?i", 5)); ok {
					w = next
				}
			}
			if d.coin() {
				all = append(all, twin{value.Pair(w.v, x.v), &model{kind: "pair", a: w.m, b: x.m}})
			} else {
				all = append(all, twin{value.Cons(w.v, x.v), &model{kind: "cons", a: w.m, b: x.m}})
			}
		}
		for _, depth := range []int{5, 9, 12, 20, 30, 2000} {
			w := all[len(all)-1]
			got, want := value.Seen(w.v, depth), modelSeen(nil, w.m, depth, 0)
			if !slices.Equal(got, want) {
				t.Fatalf("P14.8: a great tree with depth %d: %d nodes; want %d", depth, len(got), len(want))
			}
			if len(got) > api.MaxObs {
				t.Fatalf("P14.8: %d nodes", len(got))
			}
		}
	}
}
