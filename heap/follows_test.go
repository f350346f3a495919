package heap_test

import (
	"fmt"
	"slices"
	"strings"
	"testing"

	"culprit/api"
	"culprit/coerce"
	"culprit/value"
)

// chain: the types and labels of casts, one behind the other.
type chain struct {
	types  []string
	labels []int64
}

func (c chain) String() string { return fmt.Sprint(c.types, c.labels) }

func (c chain) last() string { return c.types[len(c.types)-1] }

func (c chain) with(to string, label int64) chain {
	return chain{append(slices.Clone(c.types), to), append(slices.Clone(c.labels), label)}
}

// view: one value in each world, come to by a chain of casts from what it began as.
type view struct {
	chain
	first, now []value.Value
	made       bool // what it began as is a box that was just made
}

// story: the same done in several worlds.
type story struct {
	dice
	t      *testing.T
	worlds []*world
	views  []view
	told   []string // what was done

	gots, sets, blamedGots, blamedSets, boxes int
}

// fail shows the whole story.
func (s *story) fail(what string, a ...any) {
	s.t.Helper()
	s.t.Fatalf("%s\n%s", fmt.Sprintf(what, a...), strings.Join(s.told, "\n"))
}

func (s *story) tell(what string, a ...any) { s.told = append(s.told, fmt.Sprintf(what, a...)) }

// alike: what was answered in each world: a value that is seen alike, or the same blame, or the same error.
func (s *story) alike(what string, all []answer) answer {
	s.t.Helper()
	for _, a := range all {
		if a.e != all[0].e || a.label != all[0].label || (a.v == nil) != (all[0].v == nil) {
			s.fail("what follows: %s: %s, and %s", what, all[0].told(), a.told())
		}
		if a.v != nil && !slices.Equal(value.Seen(a.v, 7), value.Seen(all[0].v, 7)) {
			s.fail("what follows: %s: %s, and %s", what, all[0].told(), a.told())
		}
	}
	return all[0]
}

// make a box of a dealt value.
func (s *story) make() {
	typ := s.typeOf(1 + s.below(6))
	r := s.valueOf(typ, 3)
	v := view{chain: chain{types: []string{"x" + typ}}, made: true}
	for _, w := range s.worlds {
		v.first = append(v.first, w.box(r(w), typ))
	}
	v.now = v.first
	s.tell("%d is a box of the type %s", len(s.views), typ)
	s.views = append(s.views, v)
}

// cast a view further: in each world by its way.
func (s *story) cast() {
	at := s.below(len(s.views))
	v := s.views[at]
	to, label := s.near(v.last()), s.label()
	if len(to) > 24 || strings.Count(to, "x") > 5 || len(v.labels) > 6 {
		return
	}
	next := view{chain: v.with(to, label), first: v.first, made: v.made}
	var all []answer
	for i, w := range s.worlds {
		if w.asOne {
			all = append(all, of(value.Coerce(v.first[i], next.asOne())))
		} else {
			all = append(all, w.by(v.now[i], v.last(), to, label))
		}
	}
	s.tell("%d is %d, cast to %s, %d", len(s.views), at, to, label)
	if s.alike("a cast", all).e != api.OK {
		return
	}
	for _, a := range all {
		next.now = append(next.now, a.v)
	}
	s.views = append(s.views, next)
}

// asOne: all casts as one coercion.
func (c chain) asOne() []api.Co {
	all, _ := coerce.Of(c.types[0], c.types[0], 1)
	for i, label := range c.labels {
		next, _ := coerce.Of(c.types[i], c.types[i+1], label)
		all, _ = coerce.Then(all, next)
	}
	return all
}

// wraps are the casts between box types that a chain lays around a box.
func (c chain) wraps() (w chain) {
	w.types = c.types[:1]
	step := func(to string, label int64) {
		if to != w.last() {
			w = w.with(to, label)
		}
	}
	for i, label := range c.labels {
		switch from, to := c.types[i], c.types[i+1]; {
		case from == "?" && to == "?":
		case to == "?":
			step("x?", label)
		default:
			step(to, label)
		}
	}
	return w
}

// read tells what is got of a box under a chain, by casts of the parts.
func (c chain) read(v value.Value) answer {
	a, w := answer{v: v}, c.wraps()
	for i, label := range w.labels {
		if a.e == api.OK {
			a = of(value.Cast(a.v, w.types[i][1:], w.types[i+1][1:], label))
		}
	}
	return a
}

// write tells what is set into a box under a chain.
func (c chain) write(v value.Value) answer {
	a, w := answer{v: v}, c.wraps()
	for i := len(w.labels) - 1; i >= 0; i-- {
		if a.e == api.OK {
			a = of(value.Cast(a.v, w.types[i+1][1:], w.types[i][1:], -w.labels[i]))
		}
	}
	return a
}

// get what a view's cell holds.
func (s *story) get() {
	at := s.below(len(s.views))
	v := s.views[at]
	s.tell("Get of %d", at)
	var all []answer
	for i, w := range s.worlds {
		all = append(all, of(w.h.Get(v.now[i])))
	}
	got := s.alike("Get", all)
	s.gots++
	if v.last()[0] != 'x' {
		if got != stuck() {
			s.fail("P15.3: Get of %s, which is no box: %s", v.last(), got.told())
		}
		return
	}
	for i, w := range s.worlds {
		cell, _ := value.Cell(v.now[i])
		if want := of(value.Read(v.now[i], w.held[cell])); want.told() != all[i].told() {
			s.fail("P15.3: Get in the world %d: %s; want %s", i, all[i].told(), want.told())
		}
	}
	if v.made {
		cell, _ := value.Cell(v.now[0])
		if want := v.read(s.worlds[0].held[cell]); want.told() != got.told() {
			s.fail("P15.3: Get through %v: %s; want %s", v.chain, got.told(), want.told())
		}
	}
	if got.e == api.ErrBlame {
		s.blamedGots++
	}
	if got.e == api.OK {
		s.look(all, v.last()[1:])
	}
}

// look at values that were got, which are of a type: boxes are views then.
func (s *story) look(all []answer, typ string) {
	for _, a := range all {
		if !isOf(a.v, typ) {
			s.fail("W6: %s is not of the type %s", a.told(), typ)
		}
	}
	var now []value.Value
	for _, a := range all {
		now = append(now, a.v)
	}
	switch {
	case typ[0] == 'x' || typ == "?" && tagOf(now[0]) == 'x':
		s.tell("%d is what was got, of the type %s", len(s.views), typ)
		s.views = append(s.views, view{chain: chain{types: []string{typ}}, first: now, now: now})
		s.boxes++
	case typ[0] == '>':
		s.lookAtFunctions(now, typ)
	}
}

func (s *story) lookAtFunctions(now []value.Value, typ string) {
	code, _ := value.Code(now[0])
	own, ok := code.(string)
	if !ok {
		s.fail("W6: a function of the type %s has the code %v", typ, code)
	}
	x, y := s.valueOf(partsOf(typ)[0], 2), s.valueOf(partsOf(own)[1], 2)
	var args, results []answer
	for i, w := range s.worlds {
		args = append(args, of(value.Arg(now[i], x(w))))
		results = append(results, of(value.Res(now[i], y(w))))
	}
	s.alike("the argument of a function", args)
	s.alike("the result of a function", results)
}

// isOf tells, as far as can be asked, whether a value is of a type.
func isOf(v value.Value, typ string) bool {
	e := api.ErrType
	switch typ[0] {
	case 'i':
		_, e = value.AsNum(v)
	case 't':
		_, e = value.AsText(v)
	case 'b':
		_, e = value.AsTruth(v)
	case '>':
		_, e = value.Code(v)
	case 'x':
		_, e = value.Cell(v)
	case 'l':
		_, e = value.IsEmpty(v)
	case ',':
		if _, _, e = value.First(v); e == api.ErrBlame {
			e = api.OK
		}
	case '?':
		return tagOf(v) != 0
	}
	return e == api.OK
}

// set a dealt value.
func (s *story) set() {
	at := s.below(len(s.views))
	v := s.views[at]
	part := "i"
	if v.last()[0] == 'x' {
		part = v.last()[1:]
	}
	r := s.valueOf(part, 3)
	s.tell("Set of %d", at)
	s.sets++
	var all []answer
	for i, w := range s.worlds {
		x := r(w)
		all = append(all, ofSet(w.h.Set(v.now[i], x)))
		if v.last()[0] == 'x' {
			s.wantWritten(i, v, x, all[i])
		}
	}
	got := s.alike("Set", all)
	if v.last()[0] != 'x' && got != stuck() {
		s.fail("P15.4: Set of %s, which is no box: %s", v.last(), got.told())
	}
	if got.e == api.ErrBlame {
		s.blamedSets++
	}
}

// wantWritten: what was set in a world is what is held there now, or it was blamed.
func (s *story) wantWritten(i int, v view, x value.Value, got answer) {
	s.t.Helper()
	want := of(value.Write(v.now[i], x))
	if got.e != want.e || got.label != want.label {
		s.fail("P15.4: Set in the world %d: %s; want %s", i, got.told(), want.told())
	}
	if v.made && i == 0 {
		if own := v.write(x); own.told() != want.told() {
			s.fail("P15.4: Set through %v: %s; want %s", v.chain, want.told(), own.told())
		}
	}
	if want.e == api.OK {
		cell, _ := value.Cell(v.now[i])
		s.worlds[i].held[cell] = want.v
	}
}

// same asks of two views.
func (s *story) same() {
	at, to := s.below(len(s.views)), s.below(len(s.views))
	a, b := s.views[at], s.views[to]
	s.tell("Same of %d and %d", at, to)
	for i, w := range s.worlds {
		first, e := value.Cell(a.now[i])
		second, other := value.Cell(b.now[i])
		is, got := w.h.Same(a.now[i], b.now[i])
		switch stuck := e != api.OK || other != api.OK; {
		case stuck && (is || got != api.ErrStuck):
			s.fail("P15.5: Same of what is no box = %v, %d", is, got)
		case !stuck && (is != (first == second) || got != api.OK):
			s.fail("P15.5: Same = %v, %d", is, got)
		}
		if again, err := s.worlds[0].h.Same(a.now[0], b.now[0]); again != is || err != got {
			s.fail("what follows: Same = %v, %d; and %v, %d", again, err, is, got)
		}
	}
}

// check that each cell holds what it ought to, and is of its type.
func (s *story) check() {
	for i, w := range s.worlds {
		if w.h.Size() != len(w.ordered) || w.h.Size() != s.worlds[0].h.Size() {
			s.fail("P15.1: %d cells, of %d boxes", w.h.Size(), len(w.ordered))
		}
		for n, b := range w.ordered {
			cell, _ := value.Cell(b)
			got := of(w.h.Get(b))
			first := of(s.worlds[0].h.Get(s.worlds[0].ordered[n]))
			if got.e != api.OK || got.told() != w.told(cell) || got.told() != first.told() {
				s.fail("what follows: the cell %d of the world %d holds %s; want %s", n, i, got.told(), w.told(cell))
			}
			if !isOf(got.v, w.types[cell]) {
				s.fail("a cell: %s is not of the type %s", got.told(), w.types[cell])
			}
		}
	}
}

func (w *world) told(cell any) string { return answer{v: w.held[cell]}.told() }

// What follows: boxes under casts one by one, and under the casts' coercions, one by one or merged, do alike.
func TestWaysAreAlike(t *testing.T) {
	var d dice = 15
	var all story
	for range 600 {
		s := story{dice: d, t: t, worlds: []*world{newWorld(byCasts, false), newWorld(byCoercions, false), newWorld(byCoercions, true)}}
		s.make()
		for range 40 {
			switch s.below(9) {
			case 0:
				s.make()
			case 1, 2, 3:
				s.cast()
			case 4, 5:
				s.get()
			case 6, 7:
				s.set()
			default:
				s.same()
			}
			s.check()
		}
		d = s.dice
		all.gots, all.sets, all.boxes = all.gots+s.gots, all.sets+s.sets, all.boxes+s.boxes
		all.blamedGots, all.blamedSets = all.blamedGots+s.blamedGots, all.blamedSets+s.blamedSets
	}
	if min(all.gots, all.sets) < 4000 || all.boxes < 300 || min(all.blamedGots, all.blamedSets) < 200 {
		t.Errorf("too little was done: %d got, %d set, %d boxes got, %d and %d blamed", all.gots, all.sets, all.boxes, all.blamedGots, all.blamedSets)
	}
}
