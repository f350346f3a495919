package eval_test

import (
	"fmt"
	"slices"
	"strings"
	"testing"

	"culprit/api"
)

// untilZero: a function of a number that does what a term does with the call of itself by one less, till that is 0.
func untilZero(t, u string, end []api.Node, around func(call []api.Node) []api.Node) []api.Node {
	call := of(api.Call, name(1), of(api.Sub, name(0), num(1)))
	return rec(t, u, of(api.If, of(api.Eq, name(0), num(0)), end, around(call)))
}

func bare(call []api.Node) []api.Node { return call }

// wantLong: what a run gives with as much fuel as it takes, and with one less.
func wantLong(t *testing.T, l []api.Node, seen string, steps int) {
	t.Helper()
	want(t, "P16.1", l, ran(l, steps, 4), outcome{seen: seen, steps: steps})
	want(t, "P16.2", l, ranLoose(l, steps-1, 4), outcome{seen: "fuel", steps: steps - 1})
}

// As many steps as may be.
func TestManySteps(t *testing.T) {
	loop := untilZero("i", "i", num(42), bare)
	for _, n := range []int64{0, 1, 2, 100, 510, 511} {
		wantRun(t, of(api.Call, loop, num(n)), 4, "num42", int(1+4*n+2))
	}
	// 2047 steps, and then one, two, three more.
	long := of(api.Call, loop, num(511))
	for more, seen := range []string{"num42", "num-42", "fuel", "fuel"} {
		steps := min(2047+more, 2048)
		l := nested(api.Node{Kind: api.Neg}, more, long)
		want(t, "P16.1", l, ran(l, api.MaxFuel, 4), outcome{seen: seen, steps: steps})
		want(t, "P16.2", l, ranLoose(l, api.MaxFuel, 4), outcome{seen: seen, steps: steps})
	}
	// A sum, by calls that wait.
	sum := untilZero("i", "i", num(0), func(call []api.Node) []api.Node { return of(api.Add, name(0), call) })
	wantRun(t, of(api.Call, sum, num(400)), 4, "num80200", 1+5*400+2)
	// Without calls: all nodes of a tree of Adds, and as far as the fuel goes.
	var adds func(deep int) []api.Node
	adds = func(deep int) []api.Node {
		if deep == 0 {
			return num(1)
		}
		return of(api.Add, adds(deep-1), adds(deep-1))
	}
	wantRun(t, adds(10), 4, "num1024", 1023)
	wantRun(t, of(api.Neg, adds(11)), 4, "num-2048", 2048)
	l := of(api.Neg, of(api.Neg, adds(11)))
	want(t, "P16.1", l, ran(l, api.MaxFuel, 4), outcome{seen: "fuel", steps: 2048})
	l = adds(13)
	want(t, "P16.1", l, ran(l, api.MaxFuel, 4), outcome{seen: "fuel", steps: 2048})
}

// Calls in calls, as many as may be.
func TestDeepCalls(t *testing.T) {
	for _, around := range []string{"+", "Add(Num 1, +)", "Let(+, Var 0)", "If(Eq(+, Num 1), Num 1, Num 2)", "Head(List i (+))", "Call(Fn i i (Var 0), +)", "Cast ? i 2 (Cast i ? 1 (+))", "Set(Box(Num 1), +)"} {
		l := term("Call(Rec i i (" + strings.Replace(around, "+", "Call(Var 1, Var 0)", 1) + "), Num 1)")
		for _, fuel := range []int{1, 100, api.MaxFuel} {
			want(t, "P16.1", l, ran(l, fuel, 4), outcome{seen: "fuel", steps: fuel})
		}
	}
	// By a wrapper around the function each of them waits for its result.
	l := term("Let(Box(Fn ? ? (Var 0)), Let(Fn ? ? (Call(Cast >?i >?? 3 (Cast >?? >?i 4 (Get(Var 1))), Var 0)), Let(Set(Var 1, Var 0), Call(Var 1, Cast i ? 5 (Num 1)))))")
	want(t, "P16.1", l, ran(l, api.MaxFuel, 4), outcome{seen: "fuel", steps: api.MaxFuel})
}

// Bodies as high as a term may be, whose whole height waits in each call.
func TestHighBodies(t *testing.T) {
	const high = 1000
	there := []api.Node{{Kind: api.Cast, Kids: 1, T: "?", U: "i", N: 1}, {Kind: api.Cast, Kids: 1, T: "i", U: "?", N: 2}}
	for _, wrap := range []func(call []api.Node) []api.Node{
		func(call []api.Node) []api.Node { return nested(api.Node{Kind: api.Neg}, high, call) },
		func(call []api.Node) []api.Node { return slices.Concat(slices.Repeat(there, high/2), call) },
		func(call []api.Node) []api.Node {
			for range high {
				call = of(api.Let, call, name(0))
			}
			return call
		},
		func(call []api.Node) []api.Node {
			for range high {
				call = of(api.Add, call, num(1))
			}
			return call
		},
	} {
		l := of(api.Call, rec("i", "i", wrap(term("Call(Var 1, Var 0)"))), num(1))
		want(t, "P16.1", l, ran(l, api.MaxFuel, 4), outcome{seen: "fuel", steps: api.MaxFuel})
	}
	// And such that end.
	casts := untilZero("i", "i", num(7), func(call []api.Node) []api.Node { return slices.Concat(slices.Repeat(there, high/2), call) })
	wantLong(t, of(api.Call, casts, num(511)), "num7", 1+4*511+2)
	lets := untilZero("i", "i", num(7), func(call []api.Node) []api.Node {
		for range high {
			call = of(api.Let, call, name(0))
		}
		return call
	})
	wantLong(t, of(api.Call, lets, num(511)), "num7", 1+4*511+2)
	blamed := untilZero("i", "?", cast("b", "?", 3, truth(1)), func(call []api.Node) []api.Node {
		return slices.Concat(slices.Repeat(slices.Concat(there[1:], there[:1]), high/2), call)
	})
	wantLong(t, of(api.Call, blamed, num(300)), "blame1", 1+4*300+2)
}

// Binders as far off as may be.
func TestFarBinders(t *testing.T) {
	var l []api.Node
	for i := range 1023 {
		l = append(l, api.Node{Kind: api.Let, Kids: 2}, api.Node{Kind: api.Num, N: int64(i)})
	}
	for _, distance := range []int64{0, 1, 500, 1021, 1022} {
		wantRun(t, append(slices.Clone(l), name(distance)...), 4, fmt.Sprintf("num%d", 1022-distance), 0)
	}
	wantLoose(t, append(slices.Clone(l), name(1023)...), 4, outcome{seen: "fault32", node: 2046})
	// Without a step as many nodes as may be.
	var lets func(deep int) []api.Node
	lets = func(deep int) []api.Node {
		if deep == 0 {
			return num(5)
		}
		return of(api.Let, lets(deep-1), lets(deep-1))
	}
	wantRun(t, lets(13), 4, "num5", 0)
	wantLong(t, of(api.Call, rec("i", "i", of(api.If, of(api.Eq, name(0), num(0)), num(3), of(api.Let, lets(12), of(api.Call, name(2), of(api.Sub, name(1), num(1)))))), num(500)), "num3", 1+4*500+2)
}

// Lists and pairs as long and as deep as is seen.
func TestLongSights(t *testing.T) {
	grow := untilZero("i", "li", list("i"), func(call []api.Node) []api.Node { return of(api.Cons, name(0), call) })
	l := of(api.Call, grow, num(400))
	var seen []string
	for n := 400; n > 0; n-- {
		seen = append(seen, fmt.Sprintf("cons num%d", n))
	}
	wantRun(t, l, api.MaxObs, strings.Join(seen, " ")+" empty", 1+5*400+3)
	wantRun(t, l, 3, "cons num400 cons num399 cons deep deep", 1+5*400+3)

	wide := list("i", slices.Repeat([][]api.Node{num(3)}, 1<<14-1)...)
	r := ran(wide, 1, api.MaxObs)
	if got := strings.Count(r.seen, " ") + 1; got > api.MaxObs || got < api.MaxObs-2 || !strings.HasSuffix(r.seen, "num3 deep") || r.steps != 1 {
		t.Errorf("P16.1: of a long list %d nodes are seen, %d steps", got, r.steps)
	}
	// Wrapped, call by call, many times.
	wrapped := untilZero("i", ">ii", fn("i", "i", name(0)), func(call []api.Node) []api.Node {
		return cast(">??", ">ii", 2, cast(">ii", ">??", 1, call))
	})
	wantRun(t, of(api.Call, of(api.Call, wrapped, num(400)), num(6)), 4, "num6", 1+4*400+2+1)
}
