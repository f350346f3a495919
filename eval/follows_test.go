package eval_test

import (
	"slices"
	"strings"
	"testing"

	"culprit/api"
	"culprit/core"
	"culprit/eval"
	"culprit/safe"
)

// mayBlame tells by the casts alone whether a blame of a term may be: not all casts of its label are safe on its side.
func mayBlame(l []api.Node, blame int64) bool {
	return slices.ContainsFunc(l, func(n api.Node) bool {
		if n.Kind != api.Cast || n.N != max(blame, -blame) {
			return false
		}
		plus, minus := safe.Sides(n.T, n.U)
		return blame > 0 && !plus || blame < 0 && !minus
	})
}

// blames: all that are seen of a run.
func blames(r api.Result) (all []int64) {
	for _, o := range r.Seen {
		if o.Kind == api.OBlame {
			all = append(all, o.N)
		}
	}
	return all
}

// W1: of a term that checks a label is blamed only where not all its casts are safe on that side, by the run or in what is seen.
func TestWhoIsBlamed(t *testing.T) {
	g := maker{dice: 21}
	runs, parts, inside, context, safeOnes := 0, 0, 0, 0, 0
	for range 40000 {
		l := g.dealt()
		r, e := eval.Run(l, 200, 8)
		if e != api.OK {
			t.Fatalf("the tests' own maker made what does not check: %s", written(l))
		}
		for _, blame := range blames(r) {
			if !mayBlame(l, blame) {
				t.Fatalf("W1: %d is blamed, but its casts are safe on that side: %s", blame, written(l))
			}
			if blame > 0 {
				inside++
			} else {
				context++
			}
			if !mayBlame(l, -blame) {
				safeOnes++
			}
			if len(r.Seen) == 1 {
				runs++
			} else {
				parts++
			}
		}
	}
	t.Logf("%d runs and %d parts blamed, %d inside, %d context, %d of them safe on the other side", runs, parts, inside, context, safeOnes)
	if runs < 1000 || parts < 300 || inside < 1000 || context < 50 || safeOnes < 500 {
		t.Errorf("too few blames: %d runs and %d parts blamed, %d inside, %d context, %d of them safe on the other side", runs, parts, inside, context, safeOnes)
	}
}

// W1, by hand, with the casts of a function and of a box, which turn the sides round.
func TestWhoIsBlamedByHand(t *testing.T) {
	for _, c := range []struct {
		text  string
		blame int64
		steps int
	}{
		{"Cast ? i 2 (Cast b ? 1 (Truth 1))", 2, 0},
		{"Call(Cast >ii >?i 7 (Fn i i (Var 0)), Cast b ? 1 (Truth 1))", -7, 1},
		{"Call(Cast >i? >ii 7 (Fn i ? (Cast b ? 1 (Truth 1))), Num 1)", 7, 1},
		{"Get(Cast x? xi 7 (Box(Cast b ? 1 (Truth 1))))", 7, 2},
		{"Set(Cast xi x? 7 (Box(Num 1)), Cast b ? 1 (Truth 1))", -7, 2},
		{"Call(Cast ? >?? 8 (Cast >ii ? 7 (Fn i i (Var 0))), Cast b ? 1 (Truth 1))", -7, 1},
		{"Call(Cast ? >ib 8 (Cast >ii ? 7 (Fn i i (Var 0))), Num 1)", 8, 1},
		{"Call(Cast ? >bi 8 (Cast >ii ? 7 (Fn i i (Var 0))), Truth 1)", -7, 1},
		{"Call(Cast >>iii >>i?i 7 (Fn >ii i (Call(Var 0, Num 1))), Fn i ? (Cast b ? 1 (Truth 1)))", -7, 2},
		{"Call(Cast >>?ii >>iii 7 (Fn >?i i (Call(Var 0, Cast b ? 1 (Truth 1)))), Fn i i (Var 0))", 7, 2},
	} {
		gives(t, c.text, told([]api.Obs{{Kind: api.OBlame, N: c.blame}}), c.steps)
		if l := term(c.text); !mayBlame(l, c.blame) {
			t.Errorf("W1: %s", c.text)
		}
	}
	// The same label on two casts: one of them alone is not safe.
	gives(t, "Pair(Cast i ? 1 (Num 1), Cast ? i 1 (Cast b ? 1 (Truth 1)))", "blame1", 0)
}

// Without a ? in its annotations nobody is blamed: casts there are from a type to itself.
func TestNobodyIsBlamedWithoutUnknown(t *testing.T) {
	g := maker{dice: 22, static: true}
	casts, values, faults := 0, 0, 0
	for range 10000 {
		l := g.dealt()
		if slices.ContainsFunc(l, func(n api.Node) bool { return strings.Contains(n.T+n.U, "?") }) {
			t.Fatalf("the tests' own maker made a ?: %s", written(l))
		}
		r, e := eval.Run(l, 200, 8)
		if e != api.OK || len(blames(r)) > 0 {
			t.Fatalf("W1: %s: %d, %s", written(l), e, told(r.Seen))
		}
		// And so the casts change nothing.
		bare := slices.DeleteFunc(slices.Clone(l), func(n api.Node) bool { return n.Kind == api.Cast })
		casts += len(l) - len(bare)
		if got, want := ran(bare, 200, 8), outcomeOf(r, e, 0); got != want {
			t.Fatalf("what follows: without its casts %s: %s; with them %s", written(l), shown(got), shown(want))
		}
		if r.Seen[0].Kind == api.OFault {
			faults++
		} else if r.Seen[0].Kind != api.OFuel {
			values++
		}
	}
	if casts < 10000 || values < 4000 || faults < 500 {
		t.Errorf("too few runs: %d casts, %d values, %d faults", casts, values, faults)
	}
}

// W6: no run of a term that checks is stuck, nor is a part of what is seen.
func TestNothingIsStuck(t *testing.T) {
	g := maker{dice: 23}
	for range 20000 {
		l := g.dealt()
		r, e, node := eval.Loose(l, 200, 12)
		if e != api.OK || node != 0 || slices.Contains(r.Seen, api.Obs{Kind: api.OFault, N: int64(api.ErrStuck)}) {
			t.Fatalf("W6: %s: %d, %s, at %d", written(l), e, told(r.Seen), node)
		}
	}
	checked := 0
	for nodes := 1; nodes <= 4; nodes++ {
		eachTree(someNodes(), nodes, func(l []api.Node) {
			if _, e, _ := core.Check(l); e == api.OK {
				checked++
				if o := ran(l, 30, 5); strings.Contains(o.seen, "fault32") {
					t.Fatalf("W6: %s: %s", written(l), shown(o))
				}
			}
		})
	}
	if checked < 900 {
		t.Errorf("too few terms that check: %d", checked)
	}
}

// A run that ends within its fuel ends alike with more; with less than its steps it is out of fuel.
func TestFuelOfDealtTerms(t *testing.T) {
	g := maker{dice: 24}
	ended, endless := 0, 0
	for range 4000 {
		l := g.dealt()
		if g.below(3) == 0 {
			l = g.spoilt(l)
		}
		o := ranLoose(l, 120, 5)
		if o.e != api.OK {
			t.Fatalf("the tests' own list %s: %s", written(l), shown(o))
		}
		if o.seen == "fuel" {
			endless++
			for fuel := range 120 {
				want(t, "what follows", l, ranLoose(l, fuel, 5), outcome{seen: "fuel", steps: fuel})
			}
			continue
		}
		ended++
		wantLoose(t, l, 5, o)
		if _, e, _ := core.Check(l); e == api.OK {
			wantRun(t, l, 5, o.seen, o.steps)
		}
	}
	if ended < 3000 || endless < 10 {
		t.Errorf("too few runs: %d, %d out of fuel", ended, endless)
	}
}

// All boxes of a run are of one heap: what one part makes each other one may take, through pairs, lists, functions, boxes and casts.
func TestOneHeap(t *testing.T) {
	gives(t, "Let(Box(Box(Num 1)), Let(Fn xxi xi (Get(Var 0)), Let(Set(Call(Var 0, Var 1), Num 5), Get(Get(Var 2)))))", "num5", 7)
	gives(t, "Let(Pair(Box(Num 1), List xi (Box(Num 2))), Let(Set(First(Var 0), Get(Head(Second(Var 0)))), Get(First(Var 1))))", "num2", 11)
	gives(t, "Let(Cast xi ? 1 (Box(Num 1)), Let(Cast ? xi 2 (Var 0), Let(Set(Var 0, Num 8), Get(Cast ? x? 3 (Var 2)))))", "num8", 3)
	gives(t, "Let(Box(Num 0), Let(Rec i i (If(Eq(Var 0, Num 0), Get(Var 2), Let(Set(Var 2, Add(Get(Var 2), Var 0)), Call(Var 2, Sub(Var 1, Num 1))))), Call(Var 0, Num 4)))", "num10", 1+1+4*7+3)
}
