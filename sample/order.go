package sample

import (
	"slices"
	"strconv"
	"strings"

	"culprit/api"
)

// Orders answers terms that tell in which order kids are run, and that a node's step comes behind them all: from the left, and a kid that blames ends it.
func Orders() (all []Known) {
	for _, a := range asked() {
		kind, types := KindOf(a.kind), strings.Fields(a.types)
		var ahead [][]api.Node
		steps := 0
		for i, t := range types {
			kids := slices.Clone(ahead)
			for later, t := range types[i:] {
				kids = append(kids, blaming(t, int64(10+i+later)))
			}
			all = append(all, Known{with(kind, kids), 9, "blame" + strconv.Itoa(10+i), steps + 1})
			l, more := counted(t)
			ahead, steps = append(ahead, l), steps+more
		}
		all = append(all, Known{with(kind, ahead), 9, a.seen, steps + 1})
	}
	return slices.Concat(all, ordersOfOthers(), ordersOfBoxes())
}

// ask: of a kind whose kids are all run ahead of its step, types that they may have in a term that checks, and what is seen of it where they are what counted makes.
type ask struct{ kind, types, seen string }

func asked() []ask {
	return []ask{
		{"Call", ">ii i", "num7"}, {"Add", "i i", "num14"}, {"Sub", "i i", "num0"}, {"Mul", "i i", "num49"}, {"Neg", "i", "num-7"},
		{"Eq", "i i", "truth1"}, {"Less", "i i", "truth0"}, {"Join", "t t", `text"aa"`}, {"Size", "t", "num1"},
		{"Pair", "i t", `pair num7 text"a"`}, {"First", ",it", "num7"}, {"Second", ",it", `text"a"`},
		{"List", "i i i", "cons num7 cons num7 cons num7 empty"}, {"Cons", "i li", "cons num7 cons num7 empty"}, {"Head", "li", "num7"}, {"Tail", "li", "empty"}, {"Empty", "li", "truth0"},
		{"Box", "i", "box"}, {"Get", "xi", "num7"}, {"Set", "xi i", "num7"},
	}
}

func with(kind int8, kids [][]api.Node) []api.Node {
	return Node(api.Node{Kind: kind, T: "i"}, kids...)
}

// counted answers a term of a type, and its steps.
func counted(t string) ([]api.Node, int) {
	full, steps := Witness(t), 1
	switch t[0] {
	case ',', 'x':
		steps++
	case 'l':
		full, steps = List(t[1:], Witness(t[1:])), steps+1
	}
	return Of(api.Let, Of(api.Neg, Num(1)), full), steps
}

// blaming answers a term of a type which blames a label, behind one step.
func blaming(t string, label int64) []api.Node {
	from, l := "b", Of(api.Eq, Num(1), Num(1))
	if t == "b" {
		from, l = "i", Of(api.Neg, Num(1))
	}
	return Cast("?", t, label, Cast(from, "?", 99, l))
}

// The kids of the others.
func ordersOfOthers() []Known {
	one, _ := counted("i")
	condition, steps := counted("b")
	return []Known{
		{Of(api.Let, blaming("i", 10), blaming("i", 11)), 9, "blame10", 1},
		{Of(api.Let, one, blaming("i", 11)), 9, "blame11", 2},
		{Of(api.If, blaming("b", 10), blaming("i", 11), blaming("i", 12)), 9, "blame10", 1},
		{Of(api.If, condition, blaming("i", 11), blaming("i", 12)), 9, "blame11", steps + 2},
		{Cast("?", "i", 10, Cast("t", "?", 99, blaming("t", 11))), 9, "blame11", 1},
	}
}

// What is set is seen by what is run behind it, and by nothing ahead of it.
func ordersOfBoxes() []Known {
	get := Term("Get(Var 0)")
	set := func(n int64) []api.Node { return Of(api.Set, Var(0), Of(api.Add, get, Num(n))) }
	within := func(l []api.Node) []api.Node { return Of(api.Let, Of(api.Box, Num(1)), l) }
	boxFirst := Of(api.Set, Of(api.Let, set(1), Var(1)), Of(api.Add, Num(100), get))
	return []Known{
		{within(List("i", get, set(1), get, set(10), get)), 9, "cons num1 cons num2 cons num2 cons num12 cons num12 empty", 11},
		{within(Of(api.Sub, set(1), get)), 9, "num0", 6},
		{within(Of(api.Sub, get, set(1))), 9, "num-1", 6},
		{within(Of(api.Pair, Of(api.Cons, set(1), List("i", get)), get)), 9, "pair cons num2 cons num2 empty num2", 9},
		{within(Of(api.Call, Of(api.Let, set(1), Fn("i", "i", Of(api.Mul, Var(0), Of(api.Get, Var(2))))), set(10))), 9, "num144", 10},
		{within(Of(api.Let, boxFirst, Of(api.Pair, Var(0), Of(api.Get, Var(1))))), 9, "pair num102 num102", 9},
	}
}
