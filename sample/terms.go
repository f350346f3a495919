package sample

import (
	"slices"
	"strings"

	"culprit/api"
)

// Node answers a node, and the parts of its kids.
func Node(n api.Node, kids ...[]api.Node) []api.Node {
	n.Kids = len(kids)
	return append([]api.Node{n}, slices.Concat(kids...)...)
}

// Of answers a node of a kind that has kids alone.
func Of(kind int8, kids ...[]api.Node) []api.Node { return Node(api.Node{Kind: kind}, kids...) }

// Num answers a number.
func Num(n int64) []api.Node { return []api.Node{{Kind: api.Num, N: n}} }

// Str answers a text.
func Str(s string) []api.Node { return []api.Node{{Kind: api.Str, S: s}} }

// Truth answers a truth.
func Truth(n int64) []api.Node { return []api.Node{{Kind: api.Truth, N: n}} }

// Var answers a variable at a distance from its binder.
func Var(distance int64) []api.Node { return []api.Node{{Kind: api.Var, N: distance}} }

// Fn answers a function.
func Fn(t, u string, body []api.Node) []api.Node {
	return Node(api.Node{Kind: api.Fn, T: t, U: u}, body)
}

// Rec answers a function that may call itself.
func Rec(t, u string, body []api.Node) []api.Node {
	return Node(api.Node{Kind: api.Rec, T: t, U: u}, body)
}

// List answers a list of elements of a type.
func List(t string, kids ...[]api.Node) []api.Node {
	return Node(api.Node{Kind: api.List, T: t}, kids...)
}

// Cast answers a cast with a label.
func Cast(from, to string, label int64, kid []api.Node) []api.Node {
	return Node(api.Node{Kind: api.Cast, T: from, U: to, N: label}, kid)
}

// Nested answers so many nodes of one kind, one in the other, around a term.
func Nested(n api.Node, times int, l []api.Node) []api.Node {
	n.Kids = 1
	return slices.Concat(slices.Repeat([]api.Node{n}, times), l)
}

// UntilZero answers a function of a number that does what around does with the call of itself by one less, till that number is 0; then it is what end gives.
func UntilZero(t, u string, end []api.Node, around func(call []api.Node) []api.Node) []api.Node {
	call := Of(api.Call, Var(1), Of(api.Sub, Var(0), Num(1)))
	return Rec(t, u, Of(api.If, Of(api.Eq, Var(0), Num(0)), end, around(call)))
}

// Cut takes the type apart at which a text begins.
func Cut(t string) (one, rest string) {
	end := 1
	for range strings.Count("lx", t[:1]) + 2*strings.Count(">,", t[:1]) {
		part, _ := Cut(t[end:])
		end += len(part)
	}
	return t[:end], t[end:]
}

// Witness answers a closed term of a type, without a cast where nothing of it is unknown.
func Witness(t string) []api.Node {
	var first, second string
	if len(t) > 1 {
		first, second = Cut(t[1:])
	}
	switch t[0] {
	case 'i':
		return Num(7)
	case 'b':
		return Truth(1)
	case 't':
		return Str("a")
	case '?':
		return Cast("i", "?", 9, Num(7))
	case '>':
		return Fn(first, second, Witness(second))
	case ',':
		return Of(api.Pair, Witness(first), Witness(second))
	case 'l':
		return List(first)
	}
	return Of(api.Box, Witness(first))
}
