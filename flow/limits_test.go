package flow_test

import (
	"math"
	"testing"

	"culprit/api"
	"culprit/core"
	"culprit/sample"
)

// Fuel and depth are asked ahead of all else.
func TestFuelAndDepth(t *testing.T) {
	for _, l := range append(sample.Refused(), sample.Num(1), sample.Term("Head(List i ())")) {
		for _, wrong := range []int{-1, -2, math.MinInt, math.MaxInt, 1 << 32} {
			for _, right := range []int{0, 4, api.MaxObs} {
				want(t, "P17.1", l, ran(l, wrong, right), outcome{e: api.ErrArg})
				want(t, "P17.1", l, ran(l, right, wrong), outcome{e: api.ErrArg})
			}
			want(t, "P17.1", l, ran(l, wrong, wrong), outcome{e: api.ErrArg})
		}
		want(t, "P17.1", l, ran(l, api.MaxFuel+1, 4), outcome{e: api.ErrArg})
		want(t, "P17.1", l, ran(l, 4, api.MaxObs+1), outcome{e: api.ErrArg})
		want(t, "P17.1", l, ran(l, api.MaxFuel+1, api.MaxObs+1), outcome{e: api.ErrArg})
	}
	for _, fuel := range []int{0, 1, api.MaxObs + 1, api.MaxFuel - 1, api.MaxFuel} {
		for _, depth := range []int{1, 2, api.MaxObs - 1, api.MaxObs} {
			want(t, "P17.1", sample.Num(1), ran(sample.Num(1), fuel, depth), outcome{seen: "num1"})
		}
	}
}

// Of a term that does not check core.Check's error is answered, and nothing beside it, however much of it would run.
func TestRunOfWhatDoesNotCheck(t *testing.T) {
	seen := map[api.Errno]bool{}
	for _, l := range sample.Refused() {
		_, e, _ := core.Check(l)
		seen[e] = true
		for _, fuel := range []int{0, 5, api.MaxFuel} {
			want(t, "P17.1", l, ran(l, fuel, 4), outcome{e: e})
		}
	}
	if len(seen) != 9 || seen[api.OK] { // those that chapter 10 names
		t.Errorf("the tests' own terms are refused by %v", seen)
	}
	for _, text := range []string{"If(Truth 1, Num 1, Neg(Truth 1))", "Let(Fn i i (Var 7), Num 1)", "Pair(Head(List i ()), Var 0)", "Set(Box(Num 1), Str a)", "If(Truth 1, Num 1, Str a)", "Cast ? i 1 (Num 1)", "Call(Cast >ii >?i -3 (Fn i i (Var 0)), Cast b ? 1 (Truth 1))", "Cast ? b 2147483648 (Cast i ? 1 (Num 1))"} {
		l := sample.Term(text)
		_, e, _ := core.Check(l)
		if e == api.OK {
			t.Errorf("the tests' own term checks: %s", text)
		}
		want(t, "P17.1", l, ran(l, api.MaxFuel, 4), outcome{e: e})
	}
}

// Dealt terms, spoilt: what checks still does as eval.Run, all else is refused by core.Check's error.
func TestSpoiltTerms(t *testing.T) {
	g := sample.Maker{Dice: 46}
	counts := map[api.Errno]int{}
	for range 6000 {
		l := g.Spoilt(g.Deal())
		_, e, _ := core.Check(l)
		if got := wantAgreed(t, l, 150, 6); got.e != e || e != api.OK && got != (outcome{e: e}) {
			t.Fatalf("P17.1: %s: %s; core.Check says %d", sample.Written(l), got, int(e))
		}
		counts[e]++
	}
	t.Log(counts)
	if counts[api.OK] < 500 || counts[api.ErrType] < 500 || counts[api.ErrUnbound] < 50 || counts[api.ErrShape] < 50 || counts[api.ErrNumber] < 50 {
		t.Errorf("too few kinds of terms: %v", counts)
	}
}

// Fields that the table of chapter 10 does not name count for nothing.
func TestFieldsThatAreNotNamed(t *testing.T) {
	g := sample.Maker{Dice: 47}
	for _, k := range sample.Rows() {
		for range 5 {
			k.Term = g.Noisy(k.Term)
			wantKnown(t, k, k.Steps)
		}
	}
}

// R1: whatever nodes are handed in, the call ends, with core.Check's error or without one.
func TestAnyNodes(t *testing.T) {
	var d sample.Dice = 48
	checked := 0
	for range 60000 {
		var l []api.Node
		for range d.Below(6) {
			n := api.Node{Kind: int8(d.Below(32)), Kids: d.Below(4), N: []int64{0, 1, 2, -1, math.MaxInt64, math.MinInt64}[d.Below(6)]}
			n.S, n.T, n.U = d.One("", "a", "\xff"), d.One("", "i", "?", ">ii", "z", "l?", ",i?"), d.One("", "i", "?", ">??", "xi", "l?", "\xff")
			if n.Kind < api.Fn {
				n.Kids = 0
			}
			if d.Below(50) == 0 {
				n.Kids = []int{-1, math.MaxInt, math.MinInt}[d.Below(3)]
			}
			l = append(l, n)
		}
		_, e, _ := core.Check(l)
		if got := wantAgreed(t, l, d.Below(9), d.Below(5)); got.e != e || e != api.OK && got != (outcome{e: e}) {
			t.Fatalf("P17.1: %s: %s; core.Check says %d", sample.Written(l), got, int(e))
		}
		if e == api.OK {
			checked++
		}
	}
	if checked < 100 {
		t.Errorf("too few lists that check: %d", checked)
	}
}
