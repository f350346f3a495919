package verify_test

import (
	"slices"
	"testing"

	"culprit/api"
	"culprit/code"
	"culprit/rough"
	"culprit/verify"
)

// wantModel asks for what the tests' own following of the chapter says of a code, and of some of its places; it answers the trap.
func wantModel(t *testing.T, c api.Code, places func(known map[rough.Place]rough.State) []rough.Place) api.Trap {
	t.Helper()
	trap, known := rough.Look(c)
	got, ok := verify.Code(c)
	if got != trap || ok != (trap == api.Trap{}) {
		t.Fatalf("P20.1: %s: %s, not %s", rough.Written(c), told(got, ok), told(trap, trap == api.Trap{}))
	}
	for _, p := range places(known) {
		s, reached := known[p]
		row, stack, there := verify.Types(c, p.Fn, p.At)
		if there != (reached && ok) || there && (!slices.Equal(row, s.Row.Texts()) || !slices.Equal(stack, s.Stack.Texts())) || !there && len(row)+len(stack) > 0 {
			t.Fatalf("P20.2: %s: at %d %d the row %s, the stack %s, %v; not %s, %s", rough.Written(c), p.Fn, p.At, list(row), list(stack), there, list(s.Row.Texts()), list(s.Stack.Texts()))
		}
	}
	return trap
}

func none(map[rough.Place]rough.State) []rough.Place { return nil }

// all answers the places of code, and those around them.
func all(c api.Code) func(map[rough.Place]rough.State) []rough.Place {
	return func(map[rough.Place]rough.State) (places []rough.Place) {
		for fn := -1; fn <= len(c.Functions); fn++ {
			length := 0
			if fn >= 0 && fn < len(c.Functions) {
				length = len(c.Functions[fn].Code)
			}
			for at := -1; at <= length+1; at++ {
				places = append(places, rough.Place{Fn: fn, At: at})
			}
		}
		return places
	}
}

// each calls visit with all lists of so many of some instructions.
func each(some []api.Ins, length int, visit func(l []api.Ins)) {
	l := make([]api.Ins, length)
	var from func(n int)
	from = func(n int) {
		if n == length {
			visit(l)
			return
		}
		for _, i := range some {
			l[n] = i
			from(n + 1)
		}
	}
	from(0)
}

// stock answers instructions, and a code in which the function 1 has something of each kind in its row.
func stock(text string) ([]api.Ins, api.Code) {
	c := rough.Read("i: " + text)
	some := c.Functions[0].Code
	c.Functions[0] = rough.Read("i: push, ret").Functions[0]
	return some, c
}

// All short lists of one instruction of each kind, on things of many kinds.
func TestShortCodes(t *testing.T) {
	some, c := stock("push, text, truth, local, local 2, local 3, local 4, fn 2, rec 3, call, tail, ret, jump 2, unless 2, let, end, op Add, op Join, op Eq, op Neg, op Size, pair, part First, part Second, part Head, part Tail, part Empty, list 0 i, list 2 i, cons, box, get, set, cast i ?, cast ? i, pend i ?, pend i i")
	own := rough.Read("i: / ? i; >?i xi ,ib li: / i i; ? >?i xi ,ib li: local, ret / i i; >ii ? >?i xi ,ib li: local, ret").Functions
	ends := map[api.Errno]int{}
	for length := 1; length <= 3; length++ {
		each(some, length, func(l []api.Ins) {
			c.Functions = []api.Function{{Result: "i", Code: l}, own[2], own[3]}
			ends[wantModel(t, c, none).Err]++
			c.Functions = append([]api.Function{{Result: "i", Code: []api.Ins{{Op: code.Push}, {Op: code.Ret}}}}, own[1:]...)
			c.Functions[1].Code = l
			ends[wantModel(t, c, none).Err]++
		})
	}
	for _, e := range []api.Errno{api.OK, api.ErrEnd, api.ErrLocal, api.ErrFn, api.ErrStack, api.ErrKind, api.ErrRow, api.ErrFrom} {
		if ends[e] < 3 {
			t.Errorf("too few codes with %d: %v", e, ends)
		}
	}
}

// All lists of few kinds of instructions, a little longer.
func TestShortCodesOfFewKinds(t *testing.T) {
	good := 0
	for _, text := range []string{
		"push, truth, let, end, ret, jump 3, jump 4, unless 3, unless 4",
		"push, truth, let, ret, unless 3, unless 5, jump 5",
		"push, local, cast i ?, cast ? i, ret, let, box",
		"push, list 0 i, list 1 i, list 2 i, cons, part Head, ret",
		"local, local 1, pend i ?, pend ? i, tail, call, ret",
	} {
		some, c := stock(text)
		for length := 1; length <= 5; length++ {
			each(some, length, func(l []api.Ins) {
				c.Functions = []api.Function{{Result: "i", Code: l}}
				if wantModel(t, c, none).Err == api.OK {
					good++
				}
				c.Functions = []api.Function{{Result: "i", Code: []api.Ins{{Op: code.Push}, {Op: code.Ret}}}, {Env: []string{">ii"}, Param: "i", Result: "?", Code: l}}
				if wantModel(t, c, none).Err == api.OK {
					good++
				}
			})
		}
	}
	if good < 1000 {
		t.Errorf("too few good codes: %d", good)
	}
}

// Dealt codes, all places of them.
func TestDealtCodes(t *testing.T) {
	g := rough.Maker{}
	g.Dice = 202
	twice, notReached := 0, 0
	for range 1200 {
		c := g.Deal(g.Below(25))
		trap, known := rough.Look(c)
		if trap != (api.Trap{}) {
			t.Fatalf("the tests' own code: %v: %s", trap, rough.Written(c))
		}
		notReached += code.Size(c) - len(known)
		twice += reachedTwice(c, known)
		wantModel(t, c, all(c))
	}
	if twice < 300 || notReached < 500 {
		t.Errorf("too few places: %d reached twice, %d not reached", twice, notReached)
	}
}

// reachedTwice counts the places of code that are reached from two others.
func reachedTwice(c api.Code, known map[rough.Place]rough.State) (n int) {
	ways := map[rough.Place]int{}
	for p := range known {
		i := c.Functions[p.Fn].Code[p.At]
		if i.Op != code.Jump && i.Op != code.Ret && i.Op != code.Tail {
			ways[rough.Place{Fn: p.Fn, At: p.At + 1}]++
		}
		if i.Op == code.Jump || i.Op == code.Unless {
			ways[rough.Place{Fn: p.Fn, At: i.A}]++
		}
	}
	for _, from := range ways {
		if from > 1 {
			n++
		}
	}
	return n
}

// Dealt codes in which a little is changed.
func TestSpoiltCodes(t *testing.T) {
	g := rough.Maker{}
	g.Dice = 203
	ends := map[api.Errno]int{}
	for range 40000 {
		c := g.Spoilt(g.Deal(g.Below(12)))
		for g.Below(4) == 0 && len(c.Functions) > 0 {
			c = g.Spoilt(c)
		}
		at := rough.Place{Fn: g.Below(len(c.Functions)+2) - 1, At: g.Below(12) - 1}
		ends[wantModel(t, c, func(map[rough.Place]rough.State) []rough.Place { return []rough.Place{at} }).Err]++
	}
	for _, e := range []api.Errno{api.OK, api.ErrShape, api.ErrEnd, api.ErrOp, api.ErrLocal, api.ErrFn, api.ErrCast, api.ErrStack, api.ErrKind, api.ErrRow, api.ErrFrom} {
		if ends[e] < 100 {
			t.Errorf("too few codes with %d: %v", e, ends)
		}
	}
}
