package insert_test

import (
	"slices"
	"testing"

	"culprit/api"
	"culprit/insert"
	"culprit/parse"
)

// A node's kids are gone over whole, from the left, ahead of its own casts.
func TestOrderOfLabels(t *testing.T) {
	wantTerm(t, "x + y * z", "x ? y ? z ?", "Add [? i 3] Var2 Mul [? i 1] Var1 [? i 2] Var0", "i", "8@3 8@4 8@1")
	wantTerm(t, "x * y + z", "x ? y ? z ?", "Add Mul [? i 1] Var2 [? i 2] Var1 [? i 3] Var0", "i", "8@2 8@3 8@4")
	wantTerm(t, "(-x, (-y, -z))", "x ? y ? z ?", "Pair Neg [? i 1] Var2 Pair Neg [? i 2] Var1 Neg [? i 3] Var0", ",i,ii", "8@2 8@5 8@7")
	wantTerm(t, "if !x then -y else z", "x ? y ? z ?", "If [? b 3] Get [? x? 1] Var2 Neg [? i 2] Var1 [? i 4] Var0", "i", "12@2 8@4 5@1 7@5")
	wantTerm(t, "let a : int = !x in fn (b) : int => b", "x ?", "Let(i) [? i 3] Get [? x? 1] Var0 Fn(?,i) [? i 2] Var0", ">?i", "12@2 1@4 2@1")
	wantTerm(t, "first(x)(second(y))", "x ? y ?", "Call [? >?? 3] First [? ,?? 1] Var1 Second [? ,?? 2] Var0", "?", "10@2 10@4 3@1")
	wantTerm(t, "cons(-x, tail(head(y)))", "x ? y ?", "Cons [i ? 4] Neg [? i 1] Var1 Tail [? l? 3] Head [? l? 2] Var0", "l?", "8@2 11@5 11@4 14@1")
	wantTerm(t, "cons(-x, head(y))", "x ? y ?", "Cons [i ? 4] Neg [? i 1] Var1 [? l? 3] Head [? l? 2] Var0", "l?", "8@2 11@4 11@3 14@1")
	wantTerm(t, "head(x) := size(y)", "x ? y ?", "Set [? x? 3] Head [? l? 1] Var1 [i ? 4] Size [? t 2] Var0", "?", "11@2 9@4 12@1 15@3")
	wantTerm(t, "[!x, 1, first(y)]", "x ? y ?", "List3(i) [? i 3] Get [? x? 1] Var1 Num1 [? i 4] First [? ,?? 2] Var0", "li", "12@2 10@5 13@1 13@4")
	wantTerm(t, "fn (x) => rec f (y) => x + y", "", "Fn(?,?) [>?? ? 4] Rec(?,?) [i ? 3] Add [? i 1] Var2 [? i 2] Var0", ">??", "8@3 8@4 1@2 1@1")
}

func wantSites(t *testing.T, module, src string, env []bound, want ...api.Site) {
	t.Helper()
	l, e, _ := parse.Expr([]byte(src))
	names, types := apart(env)
	term, _, sites, f, _ := insert.Expr(module, l, names, types)
	if e != api.OK || f != api.OK || !slices.Equal(sites, want) {
		t.Errorf("P11.1: the sites of %q in %s: %+v, %d; want %+v", src, module, sites, f, want)
	}
	for _, n := range term {
		if n.Kind == api.Cast && (n.N < 1 || int(n.N) > len(sites) || n.At != sites[n.N-1].At) {
			t.Errorf("P11.1: a cast of %q is %+v; sites %+v", src, n, sites)
		}
	}
}

// The places of a source; of an As its own, which is that of its mark.
func TestSites(t *testing.T) {
	at := func(line, col int) api.Place { return api.Place{Line: line, Col: col} }
	wantSites(t, "m", "1 + 2", nil)
	wantSites(t, "main", "x + 1", []bound{{"x", "?"}}, api.Site{Module: "main", At: at(1, 1), Rule: 8})
	wantSites(t, "main", "1 +\n\n  x", []bound{{"x", "?"}}, api.Site{Module: "main", At: at(3, 3), Rule: 8})
	wantSites(t, "a_1", "(x + 1 : ?)", []bound{{"x", "?"}}, api.Site{Module: "a_1", At: at(1, 2), Rule: 8}, api.Site{Module: "a_1", At: at(1, 8), Rule: 16})
	wantSites(t, "m", "f(\n 1\n)(\n (2, 3))", []bound{{"f", "?"}},
		api.Site{Module: "m", At: at(1, 1), Rule: 3}, api.Site{Module: "m", At: at(2, 2), Rule: 4},
		api.Site{Module: "m", At: at(1, 2), Rule: 3}, api.Site{Module: "m", At: at(4, 2), Rule: 4})
	wantSites(t, "x", "-(true : ?)", nil, api.Site{Module: "x", At: at(1, 8), Rule: 16}, api.Site{Module: "x", At: at(1, 8), Rule: 8})
}

// Nodes that have one place, or none, have their sites each by itself.
func TestPlacesThatAreAlike(t *testing.T) {
	for _, place := range []api.Place{{}, {Line: 3, Col: 9}, {Line: -1, Col: 1 << 40}} {
		l := source(t, "(x + y : ?)")
		for i := range l {
			l[i].At = place
		}
		got := given("m", l, environment("x ? y ?"))
		want := []api.Site{{Module: "m", At: place, Rule: 8}, {Module: "m", At: place, Rule: 8}, {Module: "m", At: place, Rule: 16}}
		if told(got.term) != "[i ? 3] Add [? i 1] Var1 [? i 2] Var0" || !slices.Equal(got.sites, want) {
			t.Errorf("P11.1: %v, sites %+v", got, got.sites)
		}
		wantSound(t, "m", l, environment("x ? y ?"), got)
	}
}

// A module that is no name is told ahead of all else.
func TestModulesThatAreNoNames(t *testing.T) {
	lists := [][]api.Node{nil, {num(-1)}, {num(1), num(2)}, {name("unbound")}, {num(1)}, source(t, "(1, 1 + true)"), source(t, "(1, 1(2))")}
	envs := [][]bound{nil, {{"x", "?"}}, {{"let", "?"}}, {{"x", "z"}}}
	for _, module := range []string{"", "let", "module", "fn", "1", "m ", " m", "a b", "a.b", "é", "m\n", "-", "nnnnnnnnnnnnnnnnnnnnnnnnnnnnnnnnn"} {
		for _, l := range lists {
			for _, env := range envs {
				wantRefused(t, module, l, env, api.ErrArg, 0)
			}
		}
	}
	for _, module := range []string{"m", "M", "a1", "a_", "nnnnnnnnnnnnnnnnnnnnnnnnnnnnnnnn"} {
		l := source(t, "x + 1")
		got := given(module, l, environment("x ?"))
		if got.e != api.OK || len(got.sites) != 1 || got.sites[0].Module != module {
			t.Errorf("P11.1: in the module %q: %v", module, got)
		}
	}
}

// Each error of check.Expr, with its node.
func TestErrorsOfCheck(t *testing.T) {
	deep := append(slices.Repeat([]api.Node{{Kind: api.Neg, Kids: 1}}, 64), num(1))
	for _, c := range []struct {
		l    []api.Node
		env  []bound
		e    api.Errno
		node int
	}{
		{source(t, "1"), []bound{{"let", "i"}}, api.ErrArg, 0},
		{source(t, "1"), []bound{{"", "i"}}, api.ErrArg, 0},
		{source(t, "x"), []bound{{"x", "z"}}, api.ErrArg, 0},
		{source(t, "x"), []bound{{"x", ""}}, api.ErrArg, 0},
		{source(t, "x"), []bound{{"x", long(65)}}, api.ErrArg, 0},
		{[]api.Node{num(-1)}, []bound{{"x", "z"}}, api.ErrArg, 0},
		{nil, nil, api.ErrMany, 0},
		{[]api.Node{}, nil, api.ErrMany, 0},
		{slices.Repeat([]api.Node{num(1)}, 4097), nil, api.ErrMany, 0},
		{[]api.Node{num(1), num(2)}, nil, api.ErrTree, 1},
		{[]api.Node{{Kind: api.Neg, Kids: 1}, num(-1)}, nil, api.ErrTree, 1},
		{[]api.Node{{Kind: api.Neg, Kids: 1}}, nil, api.ErrTree, 1},
		{[]api.Node{{Kind: api.Cast, Kids: 1, N: 1, T: "i", U: "?"}, num(1)}, nil, api.ErrTree, 0},
		{[]api.Node{{Kind: api.As, Kids: 1}, num(1)}, nil, api.ErrTree, 0},
		{[]api.Node{{Kind: api.List, Kids: -1}}, nil, api.ErrTree, 0},
		{[]api.Node{{Kind: 127}}, nil, api.ErrTree, 0},
		{deep, nil, api.ErrDeep, 64},
		{of(api.Pair, []api.Node{num(1)}, of(api.Box, []api.Node{name("x")})), []bound{{"x", long(64)}}, api.ErrLarge, 2},
		{tree(api.Node{Kind: api.Fn, S: "x", T: long(63)}, []api.Node{name("y")}), nil, api.ErrLarge, 0},
		{source(t, "(x, y)"), []bound{{"x", "i"}}, api.ErrUnbound, 2},
		{source(t, "(x + 1, true + x)"), []bound{{"x", "?"}}, api.ErrType, 5},
		{source(t, "((x : ?), (1 : text))"), []bound{{"x", "i"}}, api.ErrType, 3},
		{source(t, "(x + 1, 1(x))"), []bound{{"x", "?"}}, api.ErrHead, 5},
		{source(t, "(x + 1, [1, x, true])"), []bound{{"x", "?"}}, api.ErrBranch, 7},
		{source(t, "if x then 1 else true"), []bound{{"x", "?"}}, api.ErrBranch, 3},
	} {
		wantRefused(t, "m", c.l, c.env, c.e, c.node)
	}
	for _, uneven := range []struct{ names, types []string }{{[]string{"x"}, nil}, {nil, []string{"i"}}, {[]string{"x", "y"}, []string{"i"}}} {
		term, typ, sites, e, node := insert.Expr("m", []api.Node{num(1)}, uneven.names, uneven.types)
		if len(term) != 0 || typ != "" || len(sites) != 0 || e != api.ErrArg || node != 0 {
			t.Errorf("P11.1: names %q of %q: %v, %q, %v, %d, %d", uneven.names, uneven.types, term, typ, sites, e, node)
		}
	}
}
