package emit_test

import (
	"reflect"
	"slices"
	"testing"

	"culprit/api"
	"culprit/code"
	"culprit/emit"
	"culprit/sample"
)

// room is a stretch of memory that a list has, spare room too.
type room struct{ from, to uintptr }

func roomOf(list any) room {
	v := reflect.ValueOf(list)
	from := v.Pointer()
	return room{from, from + uintptr(v.Cap())*v.Type().Elem().Size()}
}

// rooms answers those of all lists of a code, in the order of their memory.
func rooms(c api.Code) []room {
	all := []room{roomOf(c.Functions), roomOf(c.Casts), roomOf(c.Nums), roomOf(c.Texts), roomOf(c.Types)}
	for _, f := range c.Functions {
		all = append(all, roomOf(f.Env), roomOf(f.Code))
	}
	for _, w := range c.Casts {
		all = append(all, roomOf(w.Co))
	}
	all = slices.DeleteFunc(all, func(r room) bool { return r.from == r.to })
	slices.SortFunc(all, func(a, b room) int {
		if a.from < b.from {
			return -1
		}
		return 1
	})
	return all
}

// R5: all lists of answers are memory of their own, spare room too.
func TestAnswersAreNew(t *testing.T) {
	g := sample.Maker{Dice: 197}
	for range 500 {
		l := g.Deal()
		one, e, _ := emit.Emit(l)
		if e != api.OK {
			continue
		}
		other := good(t, l)
		all := append(rooms(one), rooms(other)...)
		all = append(all, roomOf(l))
		slices.SortFunc(all, func(a, b room) int {
			if a.from < b.from {
				return -1
			}
			return 1
		})
		for i := 1; i < len(all); i++ {
			if all[i-1].to > all[i].from {
				t.Fatalf("R5: two lists share memory: %s:\n%s", sample.Written(l), told(one))
			}
		}
		// And what is done to one is not seen in the other, nor what is done to the term.
		want := code.Show(other)
		for _, f := range one.Functions {
			clear(f.Env[:cap(f.Env)])
			clear(f.Code[:cap(f.Code)])
		}
		for _, w := range one.Casts {
			clear(w.Co[:cap(w.Co)])
		}
		clear(one.Casts[:cap(one.Casts)])
		clear(l)
		if code.Show(other) != want {
			t.Fatalf("R5: two answers share memory:\n%s", told(other))
		}
	}
}

// R5: a term stays as it was, its spare room too; R6: the same is laid of it each time.
func TestTermsStay(t *testing.T) {
	g := sample.Maker{Dice: 198}
	for range 3000 {
		l := g.Deal()
		if g.Below(3) == 0 {
			l = g.Spoilt(l)
		}
		front := sample.Witness("?")
		all := slices.Concat(front, l, sample.Witness(",bt"))
		before := slices.Clone(all)
		part := all[len(front):][:len(l)]
		one, e, node := emit.Emit(part)
		emit.Emit(all)
		emit.Emit(g.Deal())
		other, f, again := emit.Emit(part)
		if e != f || node != again || code.Show(one) != code.Show(other) {
			t.Fatalf("R6: %s: %d at %d, %s; then %d at %d, %s", sample.Written(l), e, node, told(one), f, again, told(other))
		}
		if !slices.Equal(all, before) {
			t.Fatalf("R5: a term is changed: %s", sample.Written(before))
		}
	}
}
