package sample

import (
	"slices"
	"strconv"
	"strings"

	"culprit/api"
)

// Longs answers some, with as many steps, calls that wait, nodes and binders as may be.
func Longs() []Known {
	return slices.Concat(manySteps(), deepCalls(), highBodies(), highBodiesThatEnd(), farBinders(), longLists())
}

func endless(l []api.Node) Known { return Known{l, 4, "fuel", api.MaxFuel} }

func bare(call []api.Node) []api.Node { return call }

func negs(times int, l []api.Node) []api.Node { return Nested(api.Node{Kind: api.Neg}, times, l) }

func manySteps() (all []Known) {
	loop := UntilZero("i", "i", Num(42), bare)
	for _, n := range []int64{0, 1, 2, 100, 510, 511} {
		all = append(all, Known{Of(api.Call, loop, Num(n)), 4, "num42", int(1 + 4*n + 2)})
	}
	// 2047 steps, and then one, two, three more.
	full := Of(api.Call, loop, Num(511))
	all = append(all, Known{negs(1, full), 4, "num-42", 2048}, endless(negs(2, full)), endless(negs(3, full)))
	// A sum, by calls that wait.
	sum := UntilZero("i", "i", Num(0), func(call []api.Node) []api.Node { return Of(api.Add, Var(0), call) })
	all = append(all, Known{Of(api.Call, sum, Num(400)), 4, "num80200", 1 + 5*400 + 2})
	// Without calls: all nodes of a tree of Adds, and as far as the fuel goes.
	adds := func(deep int) []api.Node { return twice(deep, Num(1), api.Add) }
	return append(all, Known{adds(10), 4, "num1024", 1023}, Known{negs(1, adds(11)), 4, "num-2048", 2048}, endless(negs(2, adds(11))), endless(adds(13)))
}

// twice answers a tree of nodes of a kind with two kids, which has so many of them one in the other, and the same leaf everywhere.
func twice(deep int, leaf []api.Node, kind int8) []api.Node {
	l := leaf
	for range deep {
		l = Of(kind, l, l)
	}
	return l
}

// Calls in calls, as many as may be.
func deepCalls() (all []Known) {
	for _, around := range []string{"+", "Add(Num 1, +)", "Let(+, Var 0)", "If(Eq(+, Num 1), Num 1, Num 2)", "Head(List i (+))", "Call(Fn i i (Var 0), +)", "Cast ? i 2 (Cast i ? 1 (+))", "Set(Box(Num 1), +)"} {
		all = append(all, endless(Term("Call(Rec i i ("+strings.Replace(around, "+", "Call(Var 1, Var 0)", 1)+"), Num 1)")))
	}
	// By a wrapper around the function each of them waits for its result.
	return append(all, endless(Term("Let(Box(Fn ? ? (Var 0)), Let(Fn ? ? (Call(Cast >?i >?? 3 (Cast >?? >?i 4 (Get(Var 1))), Var 0)), Let(Set(Var 1, Var 0), Call(Var 1, Cast i ? 5 (Num 1)))))")))
}

// high bodies have so many nodes one in the other, nearly as many as may be.
const high = 1000

// thereAndBack answers so many casts from a type to another one, to that, and so on, around a term of that type.
func thereAndBack(t, u string, casts int, l []api.Node) []api.Node {
	two := []api.Node{{Kind: api.Cast, Kids: 1, T: u, U: t, N: 1}, {Kind: api.Cast, Kids: 1, T: t, U: u, N: 2}}
	return slices.Concat(slices.Repeat(two, casts/2), l)
}

func highCasts(call []api.Node) []api.Node { return thereAndBack("i", "?", high, call) }

func highLets(call []api.Node) []api.Node {
	for range high {
		call = Of(api.Let, call, Var(0))
	}
	return call
}

func highAdds(call []api.Node) []api.Node {
	for range high {
		call = Of(api.Add, call, Num(1))
	}
	return call
}

// Bodies whose whole height waits in each call.
func highBodies() (all []Known) {
	for _, body := range []func([]api.Node) []api.Node{highCasts, highLets, highAdds, func(call []api.Node) []api.Node { return negs(high, call) }} {
		all = append(all, endless(Of(api.Call, Rec("i", "i", body(Term("Call(Var 1, Var 0)"))), Num(1))))
	}
	return all
}

func highBodiesThatEnd() []Known {
	blaming := UntilZero("i", "?", Cast("b", "?", 3, Truth(1)), func(call []api.Node) []api.Node { return thereAndBack("?", "i", high, call) })
	return []Known{
		{Of(api.Call, UntilZero("i", "i", Num(7), highCasts), Num(511)), 4, "num7", 1 + 4*511 + 2},
		{Of(api.Call, UntilZero("i", "i", Num(7), highLets), Num(511)), 4, "num7", 1 + 4*511 + 2},
		{Of(api.Call, blaming, Num(300)), 4, "blame2", 1 + 4*300 + 2},
	}
}

// Binders as far off as may be; without a step as many nodes as may be.
func farBinders() (all []Known) {
	var lets []api.Node
	for i := range 1023 {
		lets = append(lets, api.Node{Kind: api.Let, Kids: 2}, api.Node{Kind: api.Num, N: int64(i)})
	}
	for _, distance := range []int{0, 1, 500, 1021, 1022} {
		all = append(all, Known{slices.Concat(lets, Var(int64(distance))), 4, "num" + strconv.Itoa(1022-distance), 0})
	}
	wide := func(deep int) []api.Node { return twice(deep, Num(5), api.Let) }
	all = append(all, Known{wide(13), 4, "num5", 0})
	again := Of(api.Let, wide(12), Of(api.Call, Var(2), Of(api.Sub, Var(1), Num(1))))
	loop := Rec("i", "i", Of(api.If, Of(api.Eq, Var(0), Num(0)), Num(3), again))
	return append(all, Known{Of(api.Call, loop, Num(500)), 4, "num3", 1 + 4*500 + 2})
}

func longLists() []Known {
	grow := UntilZero("i", "li", List("i"), func(call []api.Node) []api.Node { return Of(api.Cons, Var(0), call) })
	return []Known{
		{Of(api.Call, grow, Num(400)), 4, "cons num400 cons num399 cons num398 cons deep deep", 1 + 5*400 + 3},
		{List("i", slices.Repeat([][]api.Node{Num(3)}, api.MaxTerm-1)...), 4, "cons num3 cons num3 cons num3 cons deep deep", 1},
	}
}
