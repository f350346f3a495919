package eval_test

import (
	"math"
	"slices"
	"strings"
	"testing"

	"culprit/api"
	"culprit/sample"
)

// The chapter's own examples.
func TestExamples(t *testing.T) {
	for _, c := range []struct {
		text, seen string
		steps      int
	}{
		{"Add(Num 2, Num 3)", "num5", 1},
		{"Cast ? i 2 (Cast i ? 1 (Num 5))", "num5", 0},
		{"Add(Num 1, Cast ? i 2 (Cast b ? 1 (Truth 1)))", "blame2", 0},
		{"Call(Cast >ii >?? 1 (Fn i i (Var 0)), Cast b ? 2 (Truth 1))", "blame-1", 1},
		{"Head(List i ())", "fault34", 2},
		{"Let(Box(Num 1), Let(Set(Cast xi x? 3 (Var 0), Cast i ? 4 (Num 7)), Get(Var 1)))", "num7", 3},
	} {
		gives(t, c.text, c.seen, c.steps)
	}
	endless := sample.Term("Call(Rec i i (Call(Var 1, Var 0)), Num 1)")
	for _, fuel := range []int{0, 1, 2, 99, 100, 2047, 2048} {
		want(t, "P16.1", endless, ran(endless, fuel, 4), outcome{seen: "fuel", steps: fuel})
		want(t, "P16.2", endless, ranLoose(endless, fuel, 4), outcome{seen: "fuel", steps: fuel})
	}
	isStuck(t, "Add(Num 1, Truth 1)", 0, 1)
	isStuck(t, "Var 0", 0, 0)
}

// By hand: each kind of node, with what it gives, its steps, and whom it blames; the order of kids; texts and depths at their limits; the document's programs.
func TestKnownTerms(t *testing.T) {
	for _, k := range slices.Concat(sample.Rows(), sample.Orders(), sample.Texts(), sample.Depths(), sample.Wholes()) {
		wantRun(t, k.Term, k.Depth, k.Seen, k.Steps)
	}
}

// Leaves that no term has that checks.
func TestLooseLeaves(t *testing.T) {
	for _, n := range []int64{2, -1, 256, 1 << 32, math.MinInt64} { // N is not 0
		wantLoose(t, sample.Truth(n), 1, outcome{seen: "truth1"})
		wantLoose(t, sample.Of(api.If, sample.Truth(n), sample.Num(1), sample.Num(2)), 1, outcome{seen: "num1", steps: 1})
	}
	// A text of a term that does not check may be longer than any that a term makes.
	long := func(bytes int) []api.Node { return sample.Str(strings.Repeat("q", bytes)) }
	wantLoose(t, sample.Of(api.Size, long(5000)), 1, outcome{seen: "num5000", steps: 1})
	for _, bytes := range []int{65, 4096} {
		seen := sample.Told([]api.Obs{{Kind: api.OText, S: strings.Repeat("q", bytes)}})
		wantLoose(t, sample.Of(api.Join, long(bytes), sample.Str("")), 1, outcome{seen: seen, steps: 1})
	}
	wantLoose(t, sample.Of(api.Join, long(4097), sample.Str("")), 1, outcome{seen: "fault35", steps: 1})
	// Where both are not texts it is stuck, however long the one is.
	wantLoose(t, sample.Of(api.Join, long(4097), sample.Num(1)), 1, outcome{seen: "fault32", steps: 1})
}
