package module_test

import (
	"slices"
	"strings"
	"testing"

	"culprit/api"
	"culprit/insert"
)

// oneTree writes a program as one tree, a Let for each import and def: what is bound by a module has its name behind the module's, so that no two are alike and none is a tree's own.
func oneTree(l []api.Module) []api.Node {
	var whole []api.Node
	last := api.Def{}
	lastName := ""
	for _, m := range l {
		own := func(named string) string { return m.Name + "_of_" + named }
		var seen []string
		for _, x := range m.Imports {
			whole = append(whole, api.Node{Kind: api.Let, Kids: 2, S: own(x.Name), T: x.T, At: x.At}, api.Node{Kind: api.Var, S: x.From + "_of_" + x.Name, At: x.At})
			seen = append(seen, x.Name)
		}
		for _, d := range m.Defs {
			whole = append(whole, api.Node{Kind: api.Let, Kids: 2, S: own(d.Name), T: d.T, At: d.At})
			whole = append(whole, renamed(d.Tree, seen, own)...)
			seen = append(seen, d.Name)
			last, lastName = d, own(d.Name)
		}
	}
	return append(whole, api.Node{Kind: api.Var, S: lastName, At: last.At})
}

// renamed gives the names of a tree that a module binds, and no binder of the tree, their long names.
func renamed(l []api.Node, seen []string, own func(string) string) []api.Node {
	l = slices.Clone(l)
	var walk func(at int, around []string) int
	walk = func(at int, around []string) int {
		n := l[at]
		if n.Kind == api.Var && slices.Contains(seen, n.S) && !slices.Contains(around, n.S) {
			l[at].S = own(n.S)
		}
		end := at + 1
		for kid := range n.Kids {
			inner := around
			if n.Kind == api.Fn || n.Kind == api.Rec || n.Kind == api.Let && kid == 1 {
				inner = slices.Concat(around, strings.Fields(n.S))
			}
			end = walk(end, inner)
		}
		return end
	}
	walk(0, nil)
	return l
}

// unlabelled: a term whose labels are not told.
func unlabelled(term []api.Node) []api.Node {
	term = slices.Clone(term)
	for i, n := range term {
		if n.Kind == api.Cast {
			term[i].N = 0
		}
	}
	return term
}

// wantAsOneTree: the labels aside, whose order is another one, the program's term is that of all modules written as one tree.
func wantAsOneTree(t *testing.T, l []api.Module, a answer) {
	t.Helper()
	if lets(l) > 40 {
		return
	}
	term, typ, sites, e, node := insert.Expr("m", oneTree(l), nil, nil)
	if e == api.ErrDeep || e == api.ErrMany {
		return
	}
	if e != api.OK || typ != a.Type || len(sites) != len(a.Sites) || !slices.Equal(unlabelled(term), unlabelled(a.Term)) {
		t.Fatalf("P12.1: %s is %s\nas one tree it is %s of %s, %d at %d", shown(l), shown(a), shown(marks{}.told(term)), typ, e, node)
	}
}

func TestAsOneTreeByHand(t *testing.T) {
	l, _ := source(t, "module a { export let x : int = 1; let y = x; }\nmodule m { import a.x; let y : int = let x = x in x + 1; let z = fn (y) => x + y; }")
	a := link(l)
	if a.e != api.OK || len(a.Sites) < 5 {
		t.Fatalf("the test's own modules: %s", a)
	}
	wantAsOneTree(t, l, a)
}
