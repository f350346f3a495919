package eval_test

import (
	"math"
	"slices"
	"strings"
	"testing"

	"culprit/api"
	"culprit/core"
	"culprit/sample"
)

// Fuel and depth are asked ahead of all else.
func TestFuelAndDepth(t *testing.T) {
	wrong := outcome{e: api.ErrArg}
	for _, l := range append(sample.Refused(), sample.Num(1)) {
		for _, fuel := range []int{-1, -2, math.MinInt, api.MaxFuel + 1, api.MaxFuel + 2, math.MaxInt, 1 << 32} {
			for _, depth := range []int{0, 4, api.MaxObs, -1, api.MaxObs + 1} {
				want(t, "P16.1", l, ran(l, fuel, depth), wrong)
				want(t, "P16.2", l, ranLoose(l, fuel, depth), wrong)
			}
		}
		for _, depth := range []int{-1, -2, math.MinInt, api.MaxObs + 1, api.MaxObs + 2, math.MaxInt, 1 << 32} {
			for _, fuel := range []int{0, 9, api.MaxFuel} {
				want(t, "P16.1", l, ran(l, fuel, depth), wrong)
				want(t, "P16.2", l, ranLoose(l, fuel, depth), wrong)
			}
		}
	}
	for _, fuel := range []int{0, 1, api.MaxFuel - 1, api.MaxFuel} {
		for _, depth := range []int{1, 2, api.MaxObs - 1, api.MaxObs} {
			want(t, "P16.1", sample.Num(1), ran(sample.Num(1), fuel, depth), outcome{seen: "num1"})
			want(t, "P16.2", sample.Num(1), ranLoose(sample.Num(1), fuel, depth), outcome{seen: "num1"})
		}
	}
}

// Where it is stuck that is seen at any depth, too.
func TestDepthOfWhatIsStuck(t *testing.T) {
	for _, depth := range []int{0, 1, api.MaxObs} {
		wantLoose(t, sample.Term("Pair(Num 1, Neg(Truth 1))"), depth, outcome{seen: "fault32", node: 2, steps: 1})
	}
}

// Run answers core.Check's error, and nothing beside it.
func TestRunOfWhatDoesNotCheck(t *testing.T) {
	seen := map[api.Errno]bool{}
	for _, l := range append(sample.Refused(), sample.Num(1)) {
		_, e, _ := core.Check(l)
		seen[e] = true
		if e == api.OK {
			continue
		}
		for _, fuel := range []int{0, 5, api.MaxFuel} {
			want(t, "P16.1", l, ran(l, fuel, 4), outcome{e: e})
		}
	}
	if len(seen) != 10 { // OK, and the nine that chapter 10 names
		t.Errorf("the tests' own terms are refused by %v", seen)
	}
}

// Loose answers what core.Check says ahead of the types, with the node.
func TestLooseOfListsThatAreNoTerm(t *testing.T) {
	deepAt := func(extra int) []api.Node { return sample.Nested(api.Node{Kind: api.Neg}, 1023+extra, sample.Truth(1)) }
	for _, c := range []struct {
		l    []api.Node
		e    api.Errno
		node int
	}{
		{nil, api.ErrTree, 0},
		{[]api.Node{}, api.ErrTree, 0},
		{slices.Repeat(sample.Num(1), 1<<14), api.ErrTree, 1},
		{slices.Repeat(sample.Num(1), 1<<14+1), api.ErrMany, 0},
		{slices.Repeat(deepAt(1), 20), api.ErrMany, 0},
		{sample.Term("Pair(As(Num 1), Num 1)"), api.ErrTree, 1},
		{[]api.Node{{Kind: 0}}, api.ErrTree, 0},
		{[]api.Node{{Kind: 31}}, api.ErrTree, 0},
		{[]api.Node{{Kind: -1}}, api.ErrTree, 0},
		{sample.Term("Call(Num 1, Num 1, Num 1)"), api.ErrTree, 0},
		{[]api.Node{{Kind: api.Add, Kids: 2}, {Kind: api.Num}}, api.ErrTree, 2},
		{[]api.Node{{Kind: api.List, Kids: -1}}, api.ErrTree, 0},
		{[]api.Node{{Kind: api.List, Kids: math.MaxInt}}, api.ErrTree, 1},
		{slices.Concat(sample.Truth(7), sample.Num(1)), api.ErrTree, 1},
		{sample.Term("Add(Truth 9, If(Truth 1, Num 1))"), api.ErrTree, 2},
		{deepAt(1), api.ErrDeep, 1024},
		{sample.Of(api.Pair, sample.Var(0), deepAt(0)), api.ErrDeep, 1025},
	} {
		for _, fuel := range []int{0, 5, api.MaxFuel} {
			want(t, "P16.2", c.l, ranLoose(c.l, fuel, 4), outcome{e: c.e, node: c.node})
		}
		if _, e, node := core.Check(c.l); e != c.e || node != c.node {
			t.Errorf("the tests' own list %s is refused by %d at %d", sample.Written(c.l), e, node)
		}
	}
	// At the limits it runs.
	wantLoose(t, deepAt(0), 4, outcome{seen: "fault32", steps: 1, node: 1022})
	l := sample.List("z", slices.Repeat([][]api.Node{sample.Num(3)}, 1<<14-1)...)
	wantLoose(t, l, 3, outcome{seen: "cons num3 cons num3 cons deep deep", steps: 1})
}

// Fields that the table of chapter 10 does not name count for nothing.
func TestFieldsThatAreNotNamed(t *testing.T) {
	for _, text := range []string{
		"Call(Fn i i (Neg(Var 0)), Num 1)", "Call(Rec i ? (If(Eq(Var 0, Num 0), Cast t ? 1 (Str a), Call(Var 1, Num 0))), Num 1)", "Let(Box(Num 1), Let(Set(Var 0, Num 2), Get(Var 1)))",
		"Size(Join(Str ab, Str c))", "First(Second(Pair(Truth 1, Pair(Less(Num 1, Num 2), Num 3))))", "Head(Tail(Cons(Num 1, List i (Mul(Num 2, Sub(Num 4, Num 1)), Add(Num 2, Num 3)))))", "Cast ? i 7 (Cast b ? 1 (Empty(List i ())))",
	} {
		l := sample.Term(text)
		w := ran(l, 50, 5)
		if w.e != api.OK || strings.HasPrefix(w.seen, "fault") {
			t.Fatalf("the tests' own term %s: %s", text, shown(w))
		}
		g := sample.Maker{Dice: 3}
		for range 20 {
			noisy := g.Noisy(l)
			want(t, "P16.1: fields that are not named", noisy, ran(noisy, 50, 5), w)
			want(t, "P16.2: fields that are not named", noisy, ranLoose(noisy, 50, 5), w)
		}
	}
}

// What is refused is told by one of the chapter's errors, whatever nodes are handed in (R1).
func TestAnyNodes(t *testing.T) {
	var d sample.Dice = 36
	texts := []string{"", "i", "?", ">ii", "z", "\xff", "l?", strings.Repeat("l", 64), strings.Repeat("l", 63) + "i", ",i?"}
	counts := map[api.Errno]int{}
	for range 60000 {
		var l []api.Node
		for range d.Below(6) {
			n := api.Node{Kind: int8(d.Below(32)), Kids: d.Below(4), N: []int64{0, 1, 2, -1, math.MaxInt64, math.MinInt64}[d.Below(6)], S: texts[d.Below(len(texts))], T: texts[d.Below(len(texts))], U: texts[d.Below(len(texts))]}
			if d.Below(50) == 0 {
				n.Kids = []int{-1, math.MaxInt, math.MinInt}[d.Below(3)]
			}
			if n.Kind < 5 {
				n.Kids = 0
			}
			l = append(l, n)
		}
		fuel, depth := d.Below(9), d.Below(5)
		_, e, node := core.Check(l)
		if got := ran(l, fuel, depth); got.e != e || e != api.OK && got != (outcome{e: e}) {
			t.Fatalf("P16.1: %s: %s; core.Check says %d", sample.Written(l), shown(got), e)
		}
		got := ranLoose(l, fuel, depth)
		switch e {
		case api.ErrMany, api.ErrTree, api.ErrDeep:
			want(t, "P16.2", l, got, outcome{e: e, node: node})
		default:
			if got.e != api.OK || got.seen == "" || got.steps > fuel || got.node != 0 && got.seen != "fault32" {
				t.Fatalf("P16.2: %s: %s", sample.Written(l), shown(got))
			}
		}
		counts[e]++
	}
	if counts[api.OK] < 100 || counts[api.ErrTree] < 1000 || counts[api.ErrUnbound] < 100 {
		t.Errorf("too few kinds of lists: %v", counts)
	}
}
