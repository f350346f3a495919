package insert_test

import (
	"slices"
	"strings"
	"testing"

	"culprit/api"
	"culprit/relate"
)

// bare: a term, casts aside.
func bare(term []api.Node) []api.Node {
	return slices.DeleteFunc(slices.Clone(term), func(n api.Node) bool { return n.Kind == api.Cast })
}

// unwritten: a tree, As aside.
func unwritten(l []api.Node) []api.Node {
	return slices.DeleteFunc(slices.Clone(l), func(n api.Node) bool { return n.Kind == api.As })
}

// becomes tells whether a node of a tree is what a node of a term was made of. The names of the binders around it are told, the nearest one last.
func becomes(from, to api.Node, around []string) bool {
	want := api.Node{Kind: from.Kind, Kids: from.Kids, At: from.At}
	written := func(t string) string {
		if t == "" {
			return "?"
		}
		return t
	}
	switch from.Kind {
	case api.Num, api.Truth:
		want.N = from.N
	case api.Str:
		want.S = from.S
	case api.Var: // the binder at this distance has that name, and no nearer one has
		binder := len(around) - 1 - int(to.N)
		if to.N < 0 || binder < 0 || around[binder] != from.S || slices.Contains(around[binder+1:], from.S) {
			return false
		}
		want.N = to.N
	case api.Fn, api.Rec:
		want.T, want.U = written(from.T), written(from.U)
	case api.Let:
		want.T = written(from.T)
	case api.List:
		want.T = to.T // held against the list's type elsewhere
	}
	return to == want
}

// wantSame: casts aside the term is the tree, As aside.
func wantSame(t *testing.T, l []api.Node, env []bound, term []api.Node) {
	t.Helper()
	from, to := unwritten(l), bare(term)
	if len(from) != len(to) {
		t.Fatalf("what follows: %s has %d nodes, casts aside, but its tree %s has %d, As aside", shown(told(term)), len(to), shown(told(l)), len(from))
	}
	names, _ := apart(env)
	var part func(at int, around []string) int
	part = func(at int, around []string) int {
		n := from[at]
		if !becomes(n, to[at], around) {
			t.Fatalf("P11.1: the node %+v becomes %+v, below %v", n, to[at], shown(around))
		}
		end := at + 1
		for i := range n.Kids {
			inner := around
			switch {
			case n.Kind == api.Fn, n.Kind == api.Let && i == 1:
				inner = slices.Concat(around, []string{n.S})
			case n.Kind == api.Rec:
				inner = slices.Concat(around, strings.Fields(n.S))
			}
			end = part(end, inner)
		}
		return end
	}
	part(0, names)
}

// wantLabels: each cast has its own label, from 1 on, and the place of its site; it goes from a type to another one that is consistent with it.
func wantLabels(t *testing.T, module string, a answer) {
	t.Helper()
	seen := make([]int, len(a.sites))
	for _, n := range a.term {
		if n.Kind != api.Cast {
			continue
		}
		if n.N < 1 || n.N > int64(len(a.sites)) {
			t.Fatalf("P11.1: a cast with the label %d, but %d sites", n.N, len(a.sites))
		}
		seen[n.N-1]++
		if n.Kids != 1 || n.S != "" || n.At != a.sites[n.N-1].At {
			t.Fatalf("P11.1: a cast %+v at the site %+v", n, a.sites[n.N-1])
		}
		if n.T == n.U || !relate.Consistent(n.T, n.U) {
			t.Fatalf("what follows: a cast from %s to %s", n.T, n.U)
		}
	}
	for i, s := range a.sites {
		if seen[i] != 1 {
			t.Fatalf("P11.1: the label %d stands %d times", i+1, seen[i])
		}
		if s.Module != module || s.Exporter != "" || s.Rule < 1 || s.Rule > 16 {
			t.Fatalf("P11.1: a site %+v", s)
		}
	}
}

// wantSound: what holds of every answer.
func wantSound(t *testing.T, module string, l []api.Node, env []bound, a answer) {
	t.Helper()
	wantSame(t, l, env, a.term)
	wantLabels(t, module, a)
	wantChecks(t, l, env, a)
}
