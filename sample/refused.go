package sample

import (
	"slices"
	"strings"

	"culprit/api"
)

// Refused answers lists that core.Check refuses, by each of its errors.
func Refused() [][]api.Node {
	return [][]api.Node{
		nil, {}, Num(1)[:0], slices.Concat(Num(1), Num(2)), {{Kind: api.As, Kids: 1}, {Kind: api.Num}}, {{Kind: api.Neg, Kids: 2}}, {{Kind: api.Num, Kids: -1}},
		slices.Repeat(Num(1), api.MaxTerm+1), negs(api.MaxHigh, Num(1)), Str(strings.Repeat("q", api.MaxText+1)),
		Term("Add(Num 1, Truth 1)"), Term("Truth 2"), Term("Var 0"), Term("Fn z i (Num 1)"), Term("Fn i i (Truth 1)"), Term("If(Truth 1, Num 1, Neg(Truth 1))"),
		Cast("i", "?", 0, Num(1)), Cast("i", "b", 1, Num(1)), Cast("?", "i", 1, Num(1)), Cast("i", "z", 1, Num(1)),
		Fn(strings.Repeat("l", 62)+"i", "i", Num(1)),
	}
}
