package sample

import (
	"slices"

	"culprit/api"
)

// EachTree visits the terms of just so many nodes, each of which is one of some.
func EachTree(some []api.Node, nodes int, visit func(l []api.Node)) {
	var from func(l []api.Node, missing int)
	from = func(l []api.Node, missing int) {
		if missing == 0 {
			if len(l) == nodes {
				visit(l)
			}
			return
		}
		if len(l)+missing > nodes {
			return
		}
		for _, n := range some {
			from(append(slices.Clone(l), n), missing-1+n.Kids)
		}
	}
	from(nil, 1)
}

// SomeNodes answers of each kind one or some.
func SomeNodes() []api.Node {
	l := []api.Node{{Kind: api.Num, N: 1}, {Kind: api.Str, S: "a"}, {Kind: api.Truth, N: 1}, {Kind: api.Truth}, {Kind: api.Var}, {Kind: api.Var, N: 1},
		{Kind: api.List, T: "i"}, {Kind: api.List, Kids: 1, T: "i"}, {Kind: api.List, Kids: 2, T: "?"},
		{Kind: api.Fn, Kids: 1, T: "i", U: "i"}, {Kind: api.Fn, Kids: 1, T: "?", U: "?"}, {Kind: api.Rec, Kids: 1, T: "i", U: "i"}, {Kind: api.Rec, Kids: 1, T: "?", U: "?"},
		{Kind: api.Cast, Kids: 1, T: "i", U: "?", N: 1}, {Kind: api.Cast, Kids: 1, T: "?", U: "t", N: 2}, {Kind: api.Cast, Kids: 1, T: ">ii", U: ">?i", N: 3}, {Kind: api.Cast, Kids: 1, T: "l?", U: "li", N: 4}, {Kind: api.Cast, Kids: 1, T: "xi", U: "x?", N: 5},
		{Kind: api.If, Kids: 3}}
	for _, kind := range []int8{api.Neg, api.Size, api.First, api.Second, api.Head, api.Tail, api.Empty, api.Box, api.Get} {
		l = append(l, api.Node{Kind: kind, Kids: 1})
	}
	for _, kind := range []int8{api.Call, api.Let, api.Add, api.Join, api.Less, api.Pair, api.Cons, api.Set} {
		l = append(l, api.Node{Kind: kind, Kids: 2})
	}
	return l
}
