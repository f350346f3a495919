package run_test

import (
	"reflect"
	"slices"
	"strings"
	"testing"

	"culprit/api"
	"culprit/code"
	"culprit/rough"
	"culprit/run"
	"culprit/sample"
	"culprit/verify"
)

// wantModel asks for what the tests' own following of the chapter answers of a code, and of Run, if the code may run, for the same. It answers the first word of what is told.
func wantModel(t *testing.T, c api.Code, fuel, depth int) string {
	t.Helper()
	r, trap := run.Loose(c, fuel, depth)
	s, want := rough.Loose(c, fuel, depth)
	if trap != want || !reflect.DeepEqual(r, s) {
		t.Fatalf("P21.2: %s, fuel %d: %s, not %s", rough.Written(c), fuel, told(r, trap), told(s, want))
	}
	first, _, _ := strings.Cut(told(r, trap), " ")
	return strings.TrimRight(strings.Split(first, `"`)[0], "-0123456789")
}

// wantRun asks Run for what Loose answers of code that may run, and for the error else.
func wantRun(t *testing.T, c api.Code, fuel, depth int) (may bool) {
	t.Helper()
	r, e := run.Run(c, fuel, depth)
	if trap, _ := verify.Code(c); trap != (api.Trap{}) {
		if toldRun(r, e) != nameOf(trap.Err)+" 0 0" {
			t.Fatalf("P21.1: %s: %s, not the error of %v", rough.Written(c), toldRun(r, e), trap)
		}
		return false
	}
	s, trap := run.Loose(c, fuel, depth)
	if trap != (api.Trap{}) || e != api.OK || !reflect.DeepEqual(r, s) {
		t.Fatalf("W6: %s, fuel %d: %s; Loose %s", rough.Written(c), fuel, toldRun(r, e), told(s, trap))
	}
	return true
}

// each calls visit with all lists of so many of some instructions.
func each(some []api.Ins, length int, visit func(l []api.Ins)) {
	l := make([]api.Ins, length)
	var from func(n int)
	from = func(n int) {
		if n == length {
			visit(l)
			return
		}
		for _, i := range some {
			l[n] = i
			from(n + 1)
		}
	}
	from(0)
}

// stock answers instructions, and the code in which they stand.
func stock(text string) ([]api.Ins, api.Code) {
	c := rough.Read("i: " + text)
	return c.Functions[0].Code, c
}

// All short lists of one instruction of each kind, in the program, and in a function that finds things of many kinds in its row.
func TestShortCodes(t *testing.T) {
	some, c := stock("push, text, truth, local, local 2, local 3, local 4, fn 2, rec 3, call, tail, ret, jump 2, unless 2, let, end, op Add, op Join, op Eq, op Neg, op Size, pair, part First, part Head, part Tail, part Empty, list 0 i, list 2 i, cons, box, get, set, cast i ?, cast ? i, pend i ?, pend ? i, cast >ii >i?")
	own := rough.Read("i: push, pend i ?, push, pend ? i, fn 1, push, call, ret / i i: local, ret / i i; >i? xi ,i? li: local, local 1, local, ret / i i; >ii >i? xi ,i? li: local 1, pend i ?, local, tail")
	// The function 1 closes over a function, a box, a pair, and a list.
	outer := rough.Read("i: push, list 1 i, let, push, push, cast i ?, pair, let, push, box, let, fn 2, let, fn 1, push, call, ret")
	ends := map[string]int{}
	for length := 1; length <= 3; length++ {
		each(some, length, func(l []api.Ins) {
			c.Functions = []api.Function{{Result: "i", Code: l}, own.Functions[1], own.Functions[2], own.Functions[3]}
			ends[wantModel(t, c, 6, 3)]++
			c.Functions = []api.Function{outer.Functions[0], {Code: l}, own.Functions[2], own.Functions[3]}
			ends[wantModel(t, c, 9, 3)]++
		})
	}
	// Behind two things of any kind, which lie on the stack, and ahead of a ret.
	laid := rough.Read("i: push, text, truth, local, local 1, local 2, local 3, local 4, local 6").Functions[0].Code
	c.Casts = append(c.Casts, api.Waits{Co: []api.Co{{Op: api.CoBase}}})
	some = append(some, api.Ins{Op: code.Cast, A: len(c.Casts) - 1}, api.Ins{Op: code.Pend, A: len(c.Casts) - 1})
	outer = rough.Read("i: truth, cast b ?, let, push, list 1 i, let, push, push, cast i ?, pair, let, push, box, let, fn 2, let, fn 1, push, call, ret")
	for at, i := range outer.Functions[0].Code {
		if i.Op == code.Cast {
			outer.Functions[0].Code[at].A = rough.CastPlace(&c, outer.Casts[i.A].From, "?", 1)
		}
	}
	each(laid, 2, func(l []api.Ins) {
		below := slices.Clone(l)
		for length := 1; length <= 2; length++ {
			each(some, length, func(l []api.Ins) {
				c.Functions = []api.Function{outer.Functions[0], {Code: slices.Concat(below, l, []api.Ins{{Op: code.Ret}})}, own.Functions[2], own.Functions[3]}
				ends[wantModel(t, c, len(l)*6-3, 3)]++
			})
		}
	})
	for _, e := range []string{"num", "text", "truth", "fun", "box", "pair", "cons", "empty", "fuel", "fault", "ErrEnd", "ErrLocal", "ErrStack", "ErrKind", "ErrCast", "ErrRow"} {
		if ends[e] < 100 {
			t.Errorf("too few runs that end with %s: %v", e, ends)
		}
	}
}

// All lists of few kinds of instructions, a little longer.
func TestShortCodesOfFewKinds(t *testing.T) {
	ends := map[string]int{}
	for _, text := range []string{
		"push, truth, let, end, ret, jump 3, jump 4, unless 3, unless 4",
		"push, local, cast i ?, cast ? i, ret, let, box, get, set",
		"push, truth 1, pend i ?, pend ? i 3, pend ? b 4, cast i ?, ret",
		"fn 1, push, cast >ii >i?, cast >i? >ib 3, pend ? i, call, tail, ret",
		"push, box, cast xi x?, cast i ?, set, get, ret",
		"push, list 1 i, list 2 i, cons, part Head, part Tail, ret",
	} {
		some, c := stock(text)
		f := rough.Read("i: push / i i: local, pend i i, ret").Functions[1]
		for length := 1; length <= 5; length++ {
			each(some, length, func(l []api.Ins) {
				c.Functions = []api.Function{{Result: "i", Code: l}, f}
				ends[wantModel(t, c, 4, 3)]++
			})
		}
	}
	if ends["blame"] < 100 || ends["ErrCast"] < 1000 || ends["num"] < 1000 || ends["ErrRow"] < 100 {
		t.Errorf("too few kinds of runs: %v", ends)
	}
}

// Dealt code, which may run, never traps: with much fuel and with little.
func TestDealtCodes(t *testing.T) {
	g := rough.Maker{}
	g.Dice = 211
	ends := map[string]int{}
	waiting := 0
	for range 20000 {
		c := g.Deal(g.Below(30))
		fuel := []int{300, 300, 300, 0, 1, 7}[g.Below(6)]
		depth := g.Below(6)
		ends[wantModel(t, c, fuel, depth)]++
		if !wantRun(t, c, fuel, depth) {
			t.Fatalf("the tests' own code may not run: %s", rough.Written(c))
		}
		r, _ := run.Run(c, fuel, depth)
		if r.Casts > r.Frames+1 || r.Steps > fuel {
			t.Fatalf("W4: %s: %s", rough.Written(c), toldRun(r, api.OK))
		}
		waiting += min(r.Casts, 2)
		// Nothing merged, all the same is seen.
		if seen, steps := rough.Run(c, fuel, depth); seen != sample.Told(r.Seen) || steps != r.Steps {
			t.Fatalf("what follows: %s: %s; unmerged %s, %d steps", rough.Written(c), toldRun(r, api.OK), seen, steps)
		}
	}
	if ends["blame"] < 200 || ends["fault"] < 200 || ends["fuel"] < 500 || ends["num"] < 500 || ends["pair"] < 100 || waiting < 200 {
		t.Errorf("too few kinds of runs: %v, %d", ends, waiting)
	}
}

// Dealt code in which a little is changed.
func TestSpoiltCodes(t *testing.T) {
	g := rough.Maker{}
	g.Dice = 212
	ends := map[string]int{}
	for range 60000 {
		c := g.Spoilt(g.Deal(g.Below(12)))
		for g.Below(4) == 0 && len(c.Functions) > 0 {
			c = g.Spoilt(c)
		}
		fuel := []int{60, 60, 0, 3}[g.Below(4)]
		ends[wantModel(t, c, fuel, 4)]++
		if g.Below(8) == 0 && wantRun(t, c, fuel, 4) {
			ends["may run"]++
		}
	}
	for _, e := range []string{"num", "blame", "fault", "fuel", "may run", "ErrEnd", "ErrOp", "ErrLocal", "ErrFn", "ErrCast", "ErrStack", "ErrKind", "ErrRow"} {
		if ends[e] < 40 {
			t.Errorf("too few runs that end with %s: %v", e, ends)
		}
	}
}

// Code of which any instruction is any other: what is told is told by all that lies there, not by types.
func TestMixedCodes(t *testing.T) {
	g := rough.Maker{}
	g.Dice = 213
	ends := map[string]int{}
	for range 30000 {
		c := g.Deal(g.Below(20))
		var all []api.Ins
		for _, f := range c.Functions {
			all = append(all, f.Code...)
		}
		for n, f := range c.Functions {
			mixed := slices.Clone(f.Code)
			for at := range mixed {
				if g.Below(6) == 0 {
					mixed[at] = all[g.Below(len(all))]
				}
				if lead := &mixed[at]; (lead.Op == code.Jump || lead.Op == code.Unless) && g.Below(8) > 0 {
					lead.A = at + 1 + g.Below(3)
				}
			}
			c.Functions[n].Code = mixed
		}
		ends[wantModel(t, c, []int{50, 50, 2}[g.Below(3)], 4)]++
	}
	for _, e := range []string{"num", "blame", "fault", "fuel", "ErrEnd", "ErrLocal", "ErrStack", "ErrKind", "ErrRow"} {
		if ends[e] < 20 {
			t.Errorf("too few runs that end with %s: %v", e, ends)
		}
	}
}

// W4: at no time do two coercions stand next to each other, and none is higher than the highest of the code. (Told of the following that Loose is held against above: what waits is not seen from outside.)
func TestWhatWaits(t *testing.T) {
	g := rough.Maker{}
	g.Dice = 214
	high := 0
	for range 4000 {
		c := g.Deal(g.Below(40))
		most := code.Height(c)
		m := rough.Exact{Code: c, Fuel: 200, Each: func(m *rough.Exact) {
			for n, f := range m.Frames {
				if f.Waits() && n > 0 && m.Frames[n-1].Waits() {
					t.Fatalf("W4: %s: two wait at %v", rough.Written(c), m.Place)
				}
				if f.Waits() {
					one := code.Height(api.Code{Casts: []api.Waits{{Co: f.Co}}})
					high = max(high, one)
					if one > most {
						t.Fatalf("W4: %s: one is %d high at %v, the code's %d", rough.Written(c), one, m.Place, most)
					}
				}
			}
		}}
		m.Loose(4)
	}
	if high < 3 {
		t.Errorf("what waits is at most %d high", high)
	}
}
