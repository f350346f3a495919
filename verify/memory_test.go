package verify_test

import (
	"reflect"
	"slices"
	"testing"

	"culprit/api"
	"culprit/rough"
	"culprit/verify"
)

// whole answers a list with its spare room.
func whole[T any](list []T) []T { return list[:cap(list)] }

func place(g *rough.Maker, c api.Code) (fn, at int) {
	if len(c.Functions) == 0 {
		return 0, 0
	}
	fn = g.Below(len(c.Functions))
	return fn, g.Below(len(c.Functions[fn].Code) + 1)
}

// R5: code stays as it was, its spare room too; R6: the same is answered each time, whatever was asked between.
func TestCodeStays(t *testing.T) {
	g := rough.Maker{}
	g.Dice = 207
	for range 1500 {
		c := g.Deal(g.Below(15))
		if g.Coin() {
			c = g.Spoilt(c)
		}
		c = rough.Roomy(c)
		before := rough.Kept(c)
		fn, at := place(&g, c)
		trap, ok := verify.Code(c)
		row, stack, there := verify.Types(c, fn, at)
		other := rough.Maker{}
		other.Dice = g.Dice
		verify.Code(other.Deal(9))
		verify.Types(other.Deal(9), 0, 1)
		if again, fine := verify.Code(c); again != trap || fine != ok {
			t.Fatalf("R6: %s: %s, then %s", rough.Written(c), told(trap, ok), told(again, fine))
		}
		r, s, reached := verify.Types(c, fn, at)
		if reached != there || !slices.Equal(r, row) || !slices.Equal(s, stack) {
			t.Fatalf("R6: %s: at %d %d %v, %v, then %v, %v", rough.Written(c), fn, at, row, stack, r, s)
		}
		if !reflect.DeepEqual(rough.Kept(c), before) {
			t.Fatalf("R5: %s: it is changed", rough.Written(c))
		}
	}
}

// room is a stretch of memory that a list has, spare room too.
type room struct{ from, to uintptr }

func roomOf(list []string) room {
	from := reflect.ValueOf(list).Pointer()
	return room{from, from + uintptr(cap(list))*reflect.TypeFor[string]().Size()}
}

// R5: what is answered is memory of its own, spare room too.
func TestAnswersAreNew(t *testing.T) {
	g := rough.Maker{}
	g.Dice = 208
	both := 0
	for range 1500 {
		c := g.Deal(g.Below(15))
		fn, at := place(&g, c)
		row, stack, _ := verify.Types(c, fn, at)
		row2, stack2, _ := verify.Types(c, fn, at)
		if len(row) > 0 && len(stack) > 0 {
			both++
		}
		rooms := []room{roomOf(row), roomOf(stack), roomOf(row2), roomOf(stack2), roomOf(c.Types)}
		for _, f := range c.Functions {
			rooms = append(rooms, roomOf(f.Env))
		}
		for n, r := range rooms {
			for _, s := range rooms[:n] {
				if r.from < s.to && s.from < r.to {
					t.Fatalf("R5: %s: at %d %d two lists share memory", rough.Written(c), fn, at)
				}
			}
		}
		// And what is done to one is seen in none of the others.
		want := rough.Kept(c)
		clear(whole(row))
		clear(whole(stack))
		if !reflect.DeepEqual(rough.Kept(c), want) || slices.Contains(row2, "") || slices.Contains(stack2, "") {
			t.Fatalf("R5: %s: what is done to an answer is seen elsewhere", rough.Written(c))
		}
	}
	if both < 200 {
		t.Errorf("too few answers: %d", both)
	}
}

// R4: lists that are nil, and such without elements.
func TestNoLists(t *testing.T) {
	c := rough.Read("i: push, ret / i i: local, ret")
	for _, empty := range [][]string{nil, {}} {
		c.Types, c.Functions[0].Env, c.Functions[1].Env = empty, empty, empty
		c.Casts = []api.Waits{}[:len(empty)]
		wantCode(t, c, "good")
		wantTypes(t, c, 1, 1, "i", "i")
		c.Functions[1].Code = []api.Ins{}
		wantCode(t, c, "ErrEnd 1 0")
		c.Functions[1].Code = nil
		wantCode(t, c, "ErrEnd 1 0")
		c.Functions[1].Code = c.Functions[0].Code
	}
	wantCode(t, api.Code{Functions: []api.Function{}, Casts: []api.Waits{}, Types: []string{}}, "ErrFn 0 -1")
}
