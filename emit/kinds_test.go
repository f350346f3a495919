package emit_test

import (
	"slices"
	"testing"

	"culprit/api"
	"culprit/sample"
)

// fillers answers closed terms of a type, one of each kind of node that can have that type at its root.
func fillers(t string) [][]api.Node {
	w, num := sample.Witness(t), sample.Num(3)
	all := [][]api.Node{
		sample.Of(api.Call, sample.Fn("i", t, w), num), sample.Of(api.Let, num, w), sample.Of(api.If, sample.Truth(1), w, w),
		sample.Of(api.First, sample.Of(api.Pair, w, num)), sample.Of(api.Second, sample.Of(api.Pair, num, w)), sample.Of(api.Head, sample.List(t, w)),
		sample.Of(api.Get, sample.Of(api.Box, w)), sample.Of(api.Set, sample.Of(api.Box, w), w),
		sample.Cast(t, t, 5, w), sample.Cast("?", t, 6, sample.Cast(t, "?", 7, w)),
		// A Var, as it is bound, and below more.
		sample.Of(api.Let, w, sample.Var(0)), sample.Of(api.Let, w, sample.Of(api.Let, num, sample.Var(1))),
	}
	if t == "?" {
		return all
	}
	all = append(all, w)
	switch t[0] {
	case 'i':
		for _, text := range []string{"Add(Num 1, Num 2)", "Sub(Num 1, Num 2)", "Mul(Num 1, Num 2)", "Neg(Num 1)", "Size(Str a)"} {
			all = append(all, sample.Term(text))
		}
	case 'b':
		for _, text := range []string{"Eq(Num 1, Num 2)", "Less(Num 1, Num 2)", "Empty(List i ())"} {
			all = append(all, sample.Term(text))
		}
	case 't':
		all = append(all, sample.Term("Join(Str a, Str b)"))
	case '>':
		from, to := sample.Cut(t[1:])
		all = append(all, sample.Rec(from, to, sample.Witness(to)), sample.Rec(from, to, sample.Of(api.Call, sample.Var(1), sample.Var(0))))
	case 'l':
		all = append(all, sample.Of(api.Tail, w), sample.Of(api.Cons, sample.Witness(t[1:]), w), sample.List(t[1:], sample.Witness(t[1:]), sample.Witness(t[1:])))
	}
	return all
}

// hole is a node with a kid that is missing, of a type.
type hole struct {
	of   string
	with func(l []api.Node) []api.Node
}

// holes answers each place of each kind of node that has one, for things of a type where any may stand.
func holes(t string) []hole {
	w, num := sample.Witness(t), sample.Num(3)
	of := func(kind int8, before, behind [][]api.Node) func([]api.Node) []api.Node {
		return func(l []api.Node) []api.Node {
			return sample.Of(kind, slices.Concat(before, [][]api.Node{l}, behind)...)
		}
	}
	some := func(l ...[]api.Node) [][]api.Node { return l }
	all := []hole{
		{t, func(l []api.Node) []api.Node { return sample.Fn("b", t, l) }},
		{t, func(l []api.Node) []api.Node { return sample.Rec("b", t, l) }},
		{">" + t + "i", of(api.Call, nil, some(w))}, {t, of(api.Call, some(sample.Fn(t, "b", sample.Truth(1))), nil)},
		{t, of(api.Let, nil, some(sample.Var(0)))}, {t, of(api.Let, some(num), nil)},
		{"b", of(api.If, nil, some(w, w))}, {t, of(api.If, some(sample.Truth(0)), some(w))}, {t, of(api.If, some(sample.Truth(0), w), nil)},
		{t, of(api.Pair, nil, some(num))}, {t, of(api.Pair, some(num), nil)}, {"," + t + "i", of(api.First, nil, nil)}, {"," + t + "i", of(api.Second, nil, nil)},
		{t, func(l []api.Node) []api.Node { return sample.List(t, l, w, l) }},
		{"l" + t, of(api.Head, nil, nil)}, {"l" + t, of(api.Tail, nil, nil)}, {"l" + t, of(api.Empty, nil, nil)},
		{t, of(api.Cons, nil, some(sample.List(t)))}, {"l" + t, of(api.Cons, some(w), nil)},
		{t, of(api.Box, nil, nil)}, {"x" + t, of(api.Get, nil, nil)}, {"x" + t, of(api.Set, nil, some(w))}, {t, of(api.Set, some(sample.Of(api.Box, w)), nil)},
		{t, func(l []api.Node) []api.Node { return sample.Cast(t, "?", 8, l) }},
	}
	for _, kind := range []int8{api.Add, api.Sub, api.Mul, api.Eq, api.Less} {
		all = append(all, hole{"i", of(kind, nil, some(num))}, hole{"i", of(kind, some(num), nil)})
	}
	text := sample.Str("q")
	return append(all, hole{"t", of(api.Join, nil, some(text))}, hole{"t", of(api.Join, some(text), nil)}, hole{"i", of(api.Neg, nil, nil)}, hole{"t", of(api.Size, nil, nil)})
}

// Every kind of node in every place of every other kind, where that one is in the tail, and where it is not.
func TestEachKindInEachPlace(t *testing.T) {
	terms := 0
	for _, of := range []string{"i", "b", "t", "?", ">it", ",bi", "l?", "xi"} {
		for _, h := range holes(of) {
			for _, filler := range fillers(h.of) {
				l := h.with(filler)
				for _, whole := range [][]api.Node{l, sample.Of(api.Box, l), sample.Of(api.Let, sample.Num(9), l), sample.Of(api.Empty, sample.Of(api.Tail, sample.Of(api.Let, l, sample.List("i", sample.Num(2)))))} {
					if !wantModel(t, whole) {
						t.Fatalf("the tests' own term %s does not check", sample.Written(whole))
					}
					wantRuns(t, whole, 30, 4)
					terms++
				}
			}
		}
	}
	if terms < 10000 {
		t.Errorf("too few terms: %d", terms)
	}
}
