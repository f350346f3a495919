package heap_test

import (
	"strings"

	"culprit/api"
	"culprit/coerce"
	"culprit/heap"
	"culprit/value"
)

// dice deals numbers by a rule, so that each run of a test deals the same ones.
type dice uint64

func (d *dice) below(n int) int {
	*d = *d*6364136223846793005 + 1442695040888963407
	return int(uint64(*d) >> 33 % uint64(n))
}

func (d *dice) coin() bool { return d.below(2) == 0 }

// label deals one, seldom the same twice, so that it tells which cast blamed.
func (d *dice) label() int64 {
	n := int64(1 + d.below(9999))
	if d.below(3) == 0 {
		return -n
	}
	return n
}

func (d *dice) head() byte { return heads[d.below(len(heads))] }

// typeOf deals a type of at most room letters, room being at least 1.
func (d *dice) typeOf(room int) string {
	head := ("?" + heads)[d.below(1+len(heads))]
	switch n := arity(head); {
	case n == 0:
		return string(rune(head))
	case n >= room:
		return string(rune("ib?"[d.below(3)]))
	case n == 1:
		return string(rune(head)) + d.typeOf(room-1)
	default:
		first := d.typeOf(1 + d.below(room-2))
		return string(rune(head)) + first + d.typeOf(room-1-len(first))
	}
}

// near deals a type that is consistent with t: places are put as ?, and what was ? as something else.
func (d *dice) near(t string) string {
	if d.below(6) == 0 {
		return "?"
	}
	if t == "?" {
		return d.typeOf(1 + d.below(4))
	}
	all := t[:1]
	for _, part := range partsOf(t) {
		all += d.near(part)
	}
	return all
}

// way: how a value goes from a type to another one: by a cast, or by its coercion.
type way func(v value.Value, from, to string, label int64) answer

func byCasts(v value.Value, from, to string, label int64) answer {
	return of(value.Cast(v, from, to, label))
}

func byCoercions(v value.Value, from, to string, label int64) answer {
	c, e := coerce.Of(from, to, label)
	if e != api.OK {
		return answer{e: e}
	}
	return of(value.Coerce(v, c))
}

// recipe makes a value of a type in a world: what is under ? in it is cast there by the world's way, boxes have cells of its heap.
type recipe func(w *world) value.Value

// world: a heap, with the way in which all that it holds is cast. By its cells: the type by which a box was made, and what the cell ought to hold.
type world struct {
	h       *heap.Heap
	by      way
	asOne   bool
	types   map[any]string
	held    map[any]value.Value
	ordered []value.Value // the boxes that were made, bare
}

func newWorld(by way, asOne bool) *world {
	return &world{h: heap.New(), by: by, asOne: asOne, types: map[any]string{}, held: map[any]value.Value{}}
}

// box makes one for a value of a type.
func (w *world) box(v value.Value, typ string) value.Value {
	b, e := w.h.Make(v)
	if e != api.OK {
		return nil
	}
	cell, _ := value.Cell(b)
	w.types[cell], w.held[cell] = typ, v
	w.ordered = append(w.ordered, b)
	return b
}

// valueOf deals a recipe of a value of a type. The code of a function is the type by which it was made.
func (d *dice) valueOf(t string, deep int) recipe {
	switch t[0] {
	case 'i':
		n := int64(d.below(9))
		return func(*world) value.Value { return value.Num(n) }
	case 't':
		return func(*world) value.Value { return value.Text("a") }
	case 'b':
		b := d.coin()
		return func(*world) value.Value { return value.Truth(b) }
	case '>':
		return func(*world) value.Value { return value.Fun(t) }
	case 'x':
		in := d.valueOf(t[1:], deep-1)
		return func(w *world) value.Value { return w.box(in(w), t[1:]) }
	case ',':
		a, b := d.valueOf(partsOf(t)[0], deep-1), d.valueOf(partsOf(t)[1], deep-1)
		return func(w *world) value.Value { return value.Pair(a(w), b(w)) }
	case 'l':
		if deep <= 0 || d.below(4) == 0 {
			return func(*world) value.Value { return value.Nil() }
		}
		a, b := d.valueOf(t[1:], deep-1), d.valueOf(t, deep-1)
		return func(w *world) value.Value { return value.Cons(a(w), b(w)) }
	}
	from := groundOf(d.head())
	if deep <= 0 {
		from = []string{"i", "b", "t"}[d.below(3)]
	}
	if d.coin() {
		from = strings.Replace(from, "?", "i", 1)
	}
	in, label := d.valueOf(from, deep-1), d.label()
	return func(w *world) value.Value { return w.by(in(w), from, "?", label).v }
}
