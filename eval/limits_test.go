package eval_test

import (
	"math"
	"slices"
	"strings"
	"testing"

	"culprit/api"
	"culprit/core"
)

// terms of every kind that is refused, and one that is not.
func variousTerms() [][]api.Node {
	return [][]api.Node{nil, {}, num(1), term("Add(Num 1, Truth 1)"), name(0), {{Kind: api.As, Kids: 1}, {Kind: api.Num}}, num(1)[:0], slices.Repeat(num(1), 1<<14+1), nested(api.Node{Kind: api.Neg}, 1024, num(1)), str(strings.Repeat("q", 65))}
}

// Fuel and depth are asked ahead of all else.
func TestFuelAndDepth(t *testing.T) {
	wrong := outcome{e: api.ErrArg}
	for _, l := range variousTerms() {
		for _, fuel := range []int{-1, -2, math.MinInt, api.MaxFuel + 1, api.MaxFuel + 2, math.MaxInt, 1 << 32} {
			for _, depth := range []int{0, 4, api.MaxObs, -1, api.MaxObs + 1} {
				want(t, "P16.1", l, ran(l, fuel, depth), wrong)
				want(t, "P16.2", l, ranLoose(l, fuel, depth), wrong)
			}
		}
		for _, depth := range []int{-1, -2, math.MinInt, api.MaxObs + 1, api.MaxObs + 2, math.MaxInt, 1 << 32} {
			for _, fuel := range []int{0, 9, api.MaxFuel} {
				want(t, "P16.1", l, ran(l, fuel, depth), wrong)
				want(t, "P16.2", l, ranLoose(l, fuel, depth), wrong)
			}
		}
	}
	for _, fuel := range []int{0, 1, api.MaxFuel - 1, api.MaxFuel} {
		for _, depth := range []int{1, 2, api.MaxObs - 1, api.MaxObs} {
			want(t, "P16.1", num(1), ran(num(1), fuel, depth), outcome{seen: "num1"})
			want(t, "P16.2", num(1), ranLoose(num(1), fuel, depth), outcome{seen: "num1"})
		}
	}
}

// What is seen goes down to the depth; a blame, a fault, the end of the fuel are seen at any.
func TestDepth(t *testing.T) {
	l := term("Pair(Num 1, List ,ii (Pair(Num 2, Num 3)))")
	for depth, seen := range []string{"deep", "pair deep deep", "pair num1 cons deep deep", "pair num1 cons pair deep deep empty", "pair num1 cons pair num2 num3 empty", "pair num1 cons pair num2 num3 empty"} {
		wantRun(t, l, depth, seen, 3)
	}
	wantRun(t, l, api.MaxObs, "pair num1 cons pair num2 num3 empty", 3)
	for _, depth := range []int{0, 1, api.MaxObs} {
		wantRun(t, term("Head(List i ())"), depth, "fault34", 2)
		wantRun(t, term("Cast ? b 3 (Cast i ? 1 (Num 1))"), depth, "blame3", 0)
		wantLoose(t, term("Pair(Num 1, Neg(Truth 1))"), depth, outcome{seen: "fault32", node: 2, steps: 1})
	}
	for _, text := range []string{"Num 1", "Str a", "Truth 1", "Fn i i (Var 0)", "Cast i ? 1 (Num 1)"} {
		wantRun(t, term(text), 0, "deep", 0)
	}
	// A part's blame is seen where the part itself would be too deep, as chapter 14 has it.
	wantRun(t, term("Cast ,?? ,ib 3 (Pair(Cast i ? 1 (Num 1), Cast i ? 2 (Num 2)))"), 1, "pair deep blame3", 1)
}

// Run answers core.Check's error, and nothing beside it.
func TestRunOfWhatDoesNotCheck(t *testing.T) {
	seen := map[api.Errno]bool{}
	for _, l := range append(variousTerms(), term("Truth 2"), term("Fn z i (Num 1)"), term("Fn i i (Truth 1)"), cast("i", "?", 0, num(1)), cast("i", "b", 1, num(1)), term("If(Truth 1, Num 1, Neg(Truth 1))"),
		[]api.Node{{Kind: api.Fn, Kids: 1, T: strings.Repeat("l", 62) + "i", U: "i"}, {Kind: api.Num}}, slices.Concat(num(1), num(2)), []api.Node{{Kind: api.Neg, Kids: 2}}, []api.Node{{Kind: api.Num, Kids: -1}}) {
		_, e, _ := core.Check(l)
		seen[e] = true
		if e == api.OK {
			continue
		}
		for _, fuel := range []int{0, 5, api.MaxFuel} {
			want(t, "P16.1", l, ran(l, fuel, 4), outcome{e: e})
		}
	}
	if len(seen) != 10 { // OK, and the nine that chapter 10 names
		t.Errorf("the tests' own terms are refused by %v", seen)
	}
}

// Loose answers what core.Check says ahead of the types, with the node.
func TestLooseOfListsThatAreNoTerm(t *testing.T) {
	deepAt := func(extra int) []api.Node { return nested(api.Node{Kind: api.Neg}, 1023+extra, truth(1)) }
	for _, c := range []struct {
		l    []api.Node
		e    api.Errno
		node int
	}{
		{nil, api.ErrTree, 0},
		{[]api.Node{}, api.ErrTree, 0},
		{slices.Repeat(num(1), 1<<14), api.ErrTree, 1},
		{slices.Repeat(num(1), 1<<14+1), api.ErrMany, 0},
		{slices.Repeat(deepAt(1), 20), api.ErrMany, 0},
		{term("Pair(As(Num 1), Num 1)"), api.ErrTree, 1},
		{[]api.Node{{Kind: 0}}, api.ErrTree, 0},
		{[]api.Node{{Kind: 31}}, api.ErrTree, 0},
		{[]api.Node{{Kind: -1}}, api.ErrTree, 0},
		{term("Call(Num 1, Num 1, Num 1)"), api.ErrTree, 0},
		{[]api.Node{{Kind: api.Add, Kids: 2}, {Kind: api.Num}}, api.ErrTree, 2},
		{[]api.Node{{Kind: api.List, Kids: -1}}, api.ErrTree, 0},
		{[]api.Node{{Kind: api.List, Kids: math.MaxInt}}, api.ErrTree, 1},
		{slices.Concat(truth(7), num(1)), api.ErrTree, 1},
		{term("Add(Truth 9, If(Truth 1, Num 1))"), api.ErrTree, 2},
		{deepAt(1), api.ErrDeep, 1024},
		{of(api.Pair, name(0), deepAt(0)), api.ErrDeep, 1025},
	} {
		for _, fuel := range []int{0, 5, api.MaxFuel} {
			want(t, "P16.2", c.l, ranLoose(c.l, fuel, 4), outcome{e: c.e, node: c.node})
		}
		if _, e, node := core.Check(c.l); e != c.e || node != c.node {
			t.Errorf("the tests' own list %s is refused by %d at %d", written(c.l), e, node)
		}
	}
	// At the limits it runs.
	wantLoose(t, deepAt(0), 4, outcome{seen: "fault32", steps: 1, node: 1022})
	l := list("z", slices.Repeat([][]api.Node{num(3)}, 1<<14-1)...)
	wantLoose(t, l, 3, outcome{seen: "cons num3 cons num3 cons deep deep", steps: 1})
}

// Fields that the table of chapter 10 does not name count for nothing.
func TestFieldsThatAreNotNamed(t *testing.T) {
	for _, text := range []string{
		"Call(Fn i i (Neg(Var 0)), Num 1)", "Call(Rec i ? (If(Eq(Var 0, Num 0), Cast t ? 1 (Str a), Call(Var 1, Num 0))), Num 1)", "Let(Box(Num 1), Let(Set(Var 0, Num 2), Get(Var 1)))",
		"Size(Join(Str ab, Str c))", "First(Second(Pair(Truth 1, Pair(Less(Num 1, Num 2), Num 3))))", "Head(Tail(Cons(Num 1, List i (Mul(Num 2, Sub(Num 4, Num 1)), Add(Num 2, Num 3)))))", "Cast ? i 7 (Cast b ? 1 (Empty(List i ())))",
	} {
		l := term(text)
		w := ran(l, 50, 5)
		if w.e != api.OK || strings.HasPrefix(w.seen, "fault") {
			t.Fatalf("the tests' own term %s: %s", text, shown(w))
		}
		g := maker{dice: 3}
		for range 20 {
			noisy := g.noisy(l)
			want(t, "P16.1: fields that are not named", noisy, ran(noisy, 50, 5), w)
			want(t, "P16.2: fields that are not named", noisy, ranLoose(noisy, 50, 5), w)
		}
	}
}

// What is refused is told by one of the chapter's errors, whatever nodes are handed in (R1).
func TestAnyNodes(t *testing.T) {
	var d dice = 36
	texts := []string{"", "i", "?", ">ii", "z", "\xff", "l?", strings.Repeat("l", 64), strings.Repeat("l", 63) + "i", ",i?"}
	counts := map[api.Errno]int{}
	for range 60000 {
		var l []api.Node
		for range d.below(6) {
			n := api.Node{Kind: int8(d.below(32)), Kids: d.below(4), N: []int64{0, 1, 2, -1, math.MaxInt64, math.MinInt64}[d.below(6)], S: texts[d.below(len(texts))], T: texts[d.below(len(texts))], U: texts[d.below(len(texts))]}
			if d.below(50) == 0 {
				n.Kids = []int{-1, math.MaxInt, math.MinInt}[d.below(3)]
			}
			if n.Kind < 5 {
				n.Kids = 0
			}
			l = append(l, n)
		}
		fuel, depth := d.below(9), d.below(5)
		_, e, node := core.Check(l)
		if got := ran(l, fuel, depth); got.e != e || e != api.OK && got != (outcome{e: e}) {
			t.Fatalf("P16.1: %s: %s; core.Check says %d", written(l), shown(got), e)
		}
		got := ranLoose(l, fuel, depth)
		switch e {
		case api.ErrMany, api.ErrTree, api.ErrDeep:
			want(t, "P16.2", l, got, outcome{e: e, node: node})
		default:
			if got.e != api.OK || got.seen == "" || got.steps > fuel || got.node != 0 && got.seen != "fault32" {
				t.Fatalf("P16.2: %s: %s", written(l), shown(got))
			}
		}
		counts[e]++
	}
	if counts[api.OK] < 100 || counts[api.ErrTree] < 1000 || counts[api.ErrUnbound] < 100 {
		t.Errorf("too few kinds of lists: %v", counts)
	}
}
