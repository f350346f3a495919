package flow_test

import (
	"slices"
	"testing"

	"culprit/api"
	"culprit/sample"
)

// The chapter's own examples.
func TestExamples(t *testing.T) {
	gives(t, "Call(Cast >ii >?? 1 (Fn i i (Var 0)), Cast b ? 2 (Truth 1))", "blame-1", 1)
	gives(t, "First(Cast ,?? ,ib 2 (Cast ,ii ,?? 1 (Pair(Num 1, Num 2))))", "num1", 2)
	gives(t, "Second(Cast ,?? ,ib 2 (Cast ,ii ,?? 1 (Pair(Num 1, Num 2))))", "blame2", 2)
}

// By hand: each kind of node, with what it gives, its steps, and whom it blames; the order of kids; texts and depths at their limits; the document's programs.
func TestKnownTerms(t *testing.T) {
	for _, k := range slices.Concat(sample.Rows(), sample.Orders(), sample.Texts(), sample.Depths(), sample.Wholes()) {
		wantKnown(t, k, someFuels(k.Steps)...)
	}
}

// As many steps, calls that wait, nodes and binders as may be.
func TestLongRuns(t *testing.T) {
	for _, k := range sample.Longs() {
		wantKnown(t, k, 0, 1, 100, k.Steps-1, k.Steps, api.MaxFuel)
	}
}

// Each cast by its own coercion, though another one stands between the same types, has the same label, or stands at the same place of another term.
func TestCoercionsOfNodes(t *testing.T) {
	gives(t, "Pair(Cast i ? 1 (Num 1), Let(Cast i ? 2 (Num 5), Pair(Cast ? i 3 (Var 0), Cast ? i 4 (Var 0))))", "pair num1 pair num5 num5", 2)
	for i, steps := range []int{0, 1, 2, 3} {
		// The i-th of casts that are alike but for their labels is the one that fails.
		numbers := []string{"1", "1", "1", "1"}
		numbers[i] = "0"
		l := sample.Term("List i (Cast ? i 11 (If(Eq(Num " + numbers[0] + ", Num 1), Cast i ? 1 (Num 7), Cast b ? 2 (Truth 1)))," +
			" Cast ? i 12 (If(Eq(Num " + numbers[1] + ", Num 1), Cast i ? 1 (Num 7), Cast b ? 2 (Truth 1)))," +
			" Cast ? i 13 (If(Eq(Num " + numbers[2] + ", Num 1), Cast i ? 1 (Num 7), Cast b ? 2 (Truth 1)))," +
			" Cast ? i 14 (If(Eq(Num " + numbers[3] + ", Num 1), Cast i ? 1 (Num 7), Cast b ? 2 (Truth 1))))")
		seen := []string{"blame11", "blame12", "blame13", "blame14"}[i]
		wantKnown(t, sample.Known{Term: l, Depth: 9, Seen: seen, Steps: 2 + 2*steps}, someFuels(2+2*steps)...)
	}
	// One label, many types.
	gives(t, "First(Pair(Cast ? i 1 (Cast i ? 1 (Num 1)), Cast ? ,?? 1 (Cast ,ib ? 1 (Pair(Num 1, Truth 1)))))", "num1", 3)
	gives(t, "Pair(Cast ? i 1 (Cast i ? 1 (Num 1)), Cast ? t 1 (Cast ,ib ? 1 (Pair(Num 1, Truth 1))))", "blame1", 1)
	// One cast, run again and again, of values of all kinds.
	gives(t, "Let(Fn ? i (Cast ? i 7 (Var 0)), Pair(Call(Var 0, Cast i ? 1 (Num 1)), Pair(Call(Var 0, Cast i ? 2 (Num 2)), Call(Var 0, Cast t ? 3 (Str a)))))", "blame7", 3)
	gives(t, "Let(Fn ? >?? (Cast ? >?? 7 (Var 0)), Let(Call(Var 0, Cast >ii ? 1 (Fn i i (Neg(Var 0)))), Let(Call(Var 1, Cast >bb ? 2 (Fn b b (Var 0))), Pair(Call(Var 1, Cast i ? 3 (Num 5)), Call(Var 0, Cast i ? 4 (Num 6))))))", "blame-2", 5)
	// The same places, other terms, one after the other.
	for range 2 {
		gives(t, "Cast ? b 3 (Cast i ? 1 (Num 1))", "blame3", 0)
		gives(t, "Cast ? i 4 (Cast b ? 1 (Truth 1))", "blame4", 0)
		gives(t, "Cast ? i 5 (Cast i ? 1 (Num 1))", "num1", 0)
	}
}
