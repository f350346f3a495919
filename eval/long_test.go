package eval_test

import (
	"fmt"
	"slices"
	"strings"
	"testing"

	"culprit/api"
	"culprit/sample"
)

// As many steps, calls, nodes and binders as may be: what a run gives with as much fuel as it takes, with more, and with less.
func TestLongRuns(t *testing.T) {
	for _, long := range sample.Longs() {
		for _, fuel := range []int{0, 1, 100, long.Steps - 1, long.Steps, api.MaxFuel} {
			w := outcome{seen: long.Seen, steps: long.Steps}
			if fuel < long.Steps {
				w = outcome{seen: "fuel", steps: fuel}
			}
			if fuel >= 0 {
				want(t, "P16.1", long.Term, ran(long.Term, fuel, 4), w)
				want(t, "P16.2", long.Term, ranLoose(long.Term, fuel, 4), w)
			}
		}
	}
}

// A binder one farther off than the farthest one.
func TestBinderThatIsNot(t *testing.T) {
	var l []api.Node
	for i := range 1023 {
		l = append(l, api.Node{Kind: api.Let, Kids: 2}, api.Node{Kind: api.Num, N: int64(i)})
	}
	wantLoose(t, append(l, sample.Var(1023)...), 4, outcome{seen: "fault32", node: 2046})
}

// Lists and pairs as long and as deep as is seen.
func TestLongSights(t *testing.T) {
	grow := sample.UntilZero("i", "li", sample.List("i"), func(call []api.Node) []api.Node { return sample.Of(api.Cons, sample.Var(0), call) })
	l := sample.Of(api.Call, grow, sample.Num(400))
	var seen []string
	for n := 400; n > 0; n-- {
		seen = append(seen, fmt.Sprintf("cons num%d", n))
	}
	wantRun(t, l, api.MaxObs, strings.Join(seen, " ")+" empty", 1+5*400+3)
	wantRun(t, l, 3, "cons num400 cons num399 cons deep deep", 1+5*400+3)

	wide := sample.List("i", slices.Repeat([][]api.Node{sample.Num(3)}, 1<<14-1)...)
	r := ran(wide, 1, api.MaxObs)
	if got := strings.Count(r.seen, " ") + 1; got > api.MaxObs || got < api.MaxObs-2 || !strings.HasSuffix(r.seen, "num3 deep") || r.steps != 1 {
		t.Errorf("P16.1: of a long list %d nodes are seen, %d steps", got, r.steps)
	}
	// Wrapped, call by call, many times.
	wrapped := sample.UntilZero("i", ">ii", sample.Fn("i", "i", sample.Var(0)), func(call []api.Node) []api.Node {
		return sample.Cast(">??", ">ii", 2, sample.Cast(">ii", ">??", 1, call))
	})
	wantRun(t, sample.Of(api.Call, sample.Of(api.Call, wrapped, sample.Num(400)), sample.Num(6)), 4, "num6", 1+4*400+2+1)
}
