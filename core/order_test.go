package core_test

import (
	"slices"
	"testing"

	"culprit/api"
)

// nested: as many Negs, and a part below them.
func nested(negs int, below []api.Node) []api.Node {
	return append(slices.Repeat([]api.Node{{Kind: api.Neg, Kids: 1}}, negs), below...)
}

func TestManyAheadOfAllElse(t *testing.T) {
	l := append([]api.Node{{Kind: api.List, Kids: 1 << 14, T: "i"}}, slices.Repeat(num(1), 1<<14)...)
	wantRefused(t, l, api.ErrMany, 0)
	for _, first := range []api.Node{{}, {Kind: api.As, Kids: 1}, {Kind: api.List, Kids: -1}, {Kind: api.Num}, {Kind: api.Truth, N: 2}, {Kind: api.List, Kids: 1<<14 + 1, T: "i"}, {Kind: api.List, Kids: 1 << 14, T: "z"}} {
		l[0] = first
		wantRefused(t, l, api.ErrMany, 0)
	}
	wantRefused(t, nested(1<<14, num(1)), api.ErrMany, 0)
}

// Node by node: what comes first in the list is told, whichever of the two it is; of one node ErrTree ahead of ErrDeep.
func TestShapesNodeByNode(t *testing.T) {
	none := []api.Node{{Kind: api.As, Kids: 1}}
	two := []api.Node{{Kind: api.Neg, Kids: 2}}
	for _, bad := range [][]api.Node{none, two, {{}}, {{Kind: api.Num, Kids: 1}}, {{Kind: api.List, Kids: -1}}} {
		wantRefused(t, nested(1023, bad), api.ErrTree, 1023)
		wantRefused(t, nested(1024, bad), api.ErrTree, 1024) // it lies too deep, too
		wantRefused(t, nested(1025, bad), api.ErrDeep, 1024)
		wantRefused(t, of(api.Pair, nested(1030, num(1)), bad), api.ErrDeep, 1024)
		wantRefused(t, of(api.Pair, bad, nested(1030, num(1))), api.ErrTree, 1)
		wantRefused(t, of(api.Pair, nested(1022, num(1)), bad), api.ErrTree, 1024)
	}
	wantRefused(t, slices.Concat(of(api.Add, num(1), none), two), api.ErrTree, 2)
	wantRefused(t, of(api.Add, two, none), api.ErrTree, 1)
}

// Wanting kids, and a node behind the term's end, come behind every node of the term that may not be, or lies too deep.
func TestShapesAtTheEnd(t *testing.T) {
	wanting := func(l []api.Node) []api.Node { return append([]api.Node{{Kind: api.Pair, Kids: 2}}, l...) }
	wantRefused(t, wanting(nil), api.ErrTree, 1)
	wantRefused(t, wanting(num(1)), api.ErrTree, 2)
	wantRefused(t, wanting(of(api.Add, num(1), num(1))), api.ErrTree, 4)
	wantRefused(t, wanting([]api.Node{{Kind: api.As}}), api.ErrTree, 1)
	wantRefused(t, wanting(nested(1024, num(1))), api.ErrDeep, 1024)
	wantRefused(t, nested(1024, nil), api.ErrTree, 1024) // what is wanting lies nowhere
	wantRefused(t, nested(1025, nil), api.ErrDeep, 1024)
	wantRefused(t, nested(5, nil), api.ErrTree, 5)
	wantRefused(t, []api.Node{{Kind: api.List, Kids: 3, T: "i"}, num(1)[0], num(1)[0]}, api.ErrTree, 3)

	behind := func(l []api.Node) []api.Node { return append(of(api.Neg, num(1)), l...) }
	wantRefused(t, behind(num(1)), api.ErrTree, 2)
	wantRefused(t, behind(slices.Concat(num(1), num(1), num(1))), api.ErrTree, 2)
	wantRefused(t, behind([]api.Node{{Kind: api.Add, Kids: 2}}), api.ErrTree, 2)
	wantRefused(t, behind([]api.Node{{Kind: api.As}}), api.ErrTree, 2)
	wantRefused(t, behind(append(num(1), api.Node{Kind: api.As})), api.ErrTree, 2) // what stands behind the first one is no node of the term, and is not looked at
	wantRefused(t, append(nested(1024, num(1)), num(1)...), api.ErrDeep, 1024)
	wantRefused(t, append([]api.Node{{Kind: api.List, T: "i"}}, num(1)...), api.ErrTree, 1)
	wantRefused(t, append([]api.Node{{Kind: api.List, Kids: 1, T: "i"}}, slices.Repeat(num(1), 5)...), api.ErrTree, 2)
}

// The list's shape is asked ahead of all types.
func TestShapesAheadOfTypes(t *testing.T) {
	for _, wrong := range []string{"Truth 2", "Var 0", "Fn z i (Num 1)", "List z ()", "Cast i b 1 (Num 1)", "Cast i ? 0 (Num 1)", "Neg(Truth 1)", "Head(Num 1)"} {
		l := term(wrong)
		wantRefused(t, of(api.Pair, l, []api.Node{{Kind: api.As}}), api.ErrTree, 1+len(l))
		wantRefused(t, append(slices.Clone(l), num(1)...), api.ErrTree, len(l))
		wantRefused(t, append([]api.Node{{Kind: api.Pair, Kids: 2}}, l...), api.ErrTree, 1+len(l))
		wantRefused(t, of(api.Pair, l, nested(1023, num(1))), api.ErrDeep, 1+len(l)+1023)
	}
}

// Ahead of the kids: what a node asks for itself; the kid's own fault is not told.
func TestNodesAheadOfTheirKids(t *testing.T) {
	large := long(64)
	for _, kid := range []string{"Var 9", "Truth 2", "Neg(Truth 1)", "Fn z i (Num 1)", "Cast i b 1 (Num 1)", "Num 1"} {
		for _, c := range []struct {
			node api.Node
			e    api.Errno
		}{
			{api.Node{Kind: api.Fn, T: "z", U: "i"}, api.ErrShape},
			{api.Node{Kind: api.Fn, T: "i", U: "z"}, api.ErrShape},
			{api.Node{Kind: api.Fn, T: "", U: ""}, api.ErrShape},
			{api.Node{Kind: api.Fn, T: large, U: "z"}, api.ErrShape},
			{api.Node{Kind: api.Fn, T: "z", U: large}, api.ErrShape},
			{api.Node{Kind: api.Fn, T: large, U: "i"}, api.ErrLarge},
			{api.Node{Kind: api.Fn, T: "i", U: large}, api.ErrLarge},
			{api.Node{Kind: api.Rec, T: "z", U: "i"}, api.ErrShape},
			{api.Node{Kind: api.Rec, T: "i", U: "z"}, api.ErrShape},
			{api.Node{Kind: api.Rec, T: large, U: "z"}, api.ErrShape},
			{api.Node{Kind: api.Rec, T: large, U: "i"}, api.ErrLarge},
			{api.Node{Kind: api.Rec, T: "i", U: large}, api.ErrLarge},
			{api.Node{Kind: api.List, T: "z"}, api.ErrShape},
			{api.Node{Kind: api.Cast, T: "z", U: "?", N: 1}, api.ErrShape},
			{api.Node{Kind: api.Cast, T: "?", U: "z", N: 1}, api.ErrShape},
			{api.Node{Kind: api.Cast, T: "z", U: "i", N: 0}, api.ErrShape},
			{api.Node{Kind: api.Cast, T: "i", U: "z", N: 0}, api.ErrShape},
			{api.Node{Kind: api.Cast, T: "i", U: "b", N: 1}, api.ErrType},
			{api.Node{Kind: api.Cast, T: "i", U: "b", N: 0}, api.ErrType},
			{api.Node{Kind: api.Cast, T: "i", U: "?", N: 0}, api.ErrNumber},
			{api.Node{Kind: api.Cast, T: "b", U: "?", N: -1}, api.ErrNumber},
		} {
			wantRefused(t, node(c.node, term(kid)), c.e, 0)
			wantRefused(t, of(api.Pair, num(1), node(c.node, term(kid))), c.e, 2)
		}
	}
}

// The kids from the left, each whole, the first one that is refused refuses all; behind them what the node asks of their types.
func TestKidsFromTheLeft(t *testing.T) {
	refuses(t, "Add(Truth 2, Var 0)", api.ErrNumber, 1)
	refuses(t, "Add(Var 0, Truth 2)", api.ErrUnbound, 1)
	refuses(t, "Add(Truth 1, Var 0)", api.ErrUnbound, 2)
	refuses(t, "Add(Add(Truth 1, Num 1), Var 0)", api.ErrType, 1)
	refuses(t, "Add(Add(Truth 1, Num 1), Truth 1)", api.ErrType, 1)
	refuses(t, "Add(Truth 1, Add(Num 1, Truth 1))", api.ErrType, 2)
	refuses(t, "Call(Num 1, Var 0)", api.ErrUnbound, 2)
	refuses(t, "Call(Var 0, Truth 2)", api.ErrUnbound, 1)
	refuses(t, "Call(Fn i b (Var 0), Var 0)", api.ErrType, 1)
	refuses(t, "Call(Num 1, Num 1)", api.ErrType, 0)
	refuses(t, "Let(Var 0, Truth 2)", api.ErrUnbound, 1)
	refuses(t, "Let(Neg(Truth 1), Var 7)", api.ErrType, 1)
	refuses(t, "Let(Num 1, Truth 2)", api.ErrNumber, 2)
	refuses(t, "If(Num 1, Num 1, Var 0)", api.ErrUnbound, 3)
	refuses(t, "If(Num 1, Truth 2, Var 0)", api.ErrNumber, 2)
	refuses(t, "If(Truth 2, Var 0, Var 0)", api.ErrNumber, 1)
	refuses(t, "If(Num 1, Num 1, Truth 1)", api.ErrType, 0)
	refuses(t, "List i (Truth 1, Num 1, Var 0)", api.ErrUnbound, 3)
	refuses(t, "List i (Truth 1, Truth 2, Var 0)", api.ErrNumber, 2)
	refuses(t, "Cons(Var 0, Truth 2)", api.ErrUnbound, 1)
	refuses(t, "Cons(Num 1, Var 0)", api.ErrUnbound, 2)
	refuses(t, "Set(Var 0, Truth 2)", api.ErrUnbound, 1)
	refuses(t, "Set(Num 1, Truth 2)", api.ErrNumber, 2)
	refuses(t, "Pair(Cast i ? 0 (Num 1), Cast i b 1 (Num 1))", api.ErrNumber, 1)
	refuses(t, "Pair(Cast i b 0 (Num 1), Cast i ? 0 (Num 1))", api.ErrType, 1)
	refuses(t, "Cast i ? 1 (Cast i b 1 (Num 1))", api.ErrType, 1)
	refuses(t, "Cast b ? 1 (Cast i b 1 (Num 1))", api.ErrType, 1)
	refuses(t, "Cast i ? 1 (Var 0)", api.ErrUnbound, 1)
	refuses(t, "Cast b ? 1 (Neg(Truth 1))", api.ErrType, 1)
	refuses(t, "Fn i b (Neg(Truth 1))", api.ErrType, 1)
	refuses(t, "Rec i b (Neg(Truth 1))", api.ErrType, 1)
	refuses(t, "Fn i b (Fn i b (Var 1))", api.ErrType, 1)
	refuses(t, "Head(Head(Num 1))", api.ErrType, 1)
}

// Behind the kids: ErrType ahead of ErrLarge; ErrLarge at the node whose type it would be.
func TestLargeBehindTheKids(t *testing.T) {
	large := long(64)
	list := func(t string, kids ...[]api.Node) []api.Node {
		return node(api.Node{Kind: api.List, T: t}, kids...)
	}
	wantRefused(t, list(large, num(1)), api.ErrType, 0)
	wantRefused(t, list(large, name(0)), api.ErrUnbound, 1)
	wantRefused(t, list(large, witness(large)), api.ErrLarge, 0)
	wantRefused(t, list(large), api.ErrLarge, 0)
	wantRefused(t, list(large, num(1), name(0)), api.ErrUnbound, 2)
	wantRefused(t, of(api.Box, of(api.Box, witness(large))), api.ErrLarge, 1)
	wantRefused(t, of(api.Box, of(api.Box, witness(long(63)))), api.ErrLarge, 0)
	wantRefused(t, of(api.Pair, witness(large), name(0)), api.ErrUnbound, 2)
	wantRefused(t, of(api.Neg, of(api.Box, witness(large))), api.ErrLarge, 1)
	wantRefused(t, of(api.First, of(api.Pair, witness(large), num(1))), api.ErrLarge, 1)
	wantRefused(t, of(api.Let, of(api.Box, witness(large)), name(5)), api.ErrLarge, 1)
}
