package module_test

import (
	"testing"

	"culprit/api"
	"culprit/core"
	"culprit/relate"
)

// lets counts the imports and defs of modules.
func lets(l []api.Module) int {
	all := 0
	for _, m := range l {
		all += len(m.Imports) + len(m.Defs)
	}
	return all
}

// wantChecks: the term checks, with the program's type; so no name is free.
func wantChecks(t *testing.T, l []api.Module, a answer) {
	t.Helper()
	typ, e, node := core.Check(a.Term)
	if typ != a.Type || e != api.OK || node != 0 {
		t.Fatalf("what follows: the term of %s checks as %s, %d at %d; told %s", shown(l), typ, e, node, a.Type)
	}
}

// wantLabels: each label from 1 on stands once, at the place of its site; each cast goes to another type that is consistent.
func wantLabels(t *testing.T, l []api.Module, a answer) {
	t.Helper()
	seen := make([]int, len(a.Sites))
	for _, n := range a.Term {
		if n.Kind != api.Cast {
			continue
		}
		if n.N < 1 || n.N > int64(len(a.Sites)) {
			t.Fatalf("what follows: a cast of the label %d, but %d sites: %s", n.N, len(a.Sites), shown(l))
		}
		seen[n.N-1]++
		site := a.Sites[n.N-1]
		if n.At != site.At || n.Kids != 1 || n.S != "" {
			t.Fatalf("P12.1: a cast %+v of the site %+v: %s", n, site, shown(l))
		}
		if n.T == n.U || !relate.Consistent(n.T, n.U) {
			t.Fatalf("P12.1: a cast from %s to %s: %s", n.T, n.U, shown(l))
		}
	}
	for i, times := range seen {
		if times != 1 {
			t.Fatalf("what follows: the label %d stands %d times: %s", i+1, times, shown(l))
		}
		site := a.Sites[i]
		if (site.Exporter != "") != (site.Rule == 18) || site.Rule < 1 || site.Rule > 18 {
			t.Fatalf("P12.1: a site %+v: %s", site, shown(l))
		}
	}
}

// wantSpine: a Let for each import and def, each around all that follows, a Var of the distance 0 at the end; and the places of these.
func wantSpine(t *testing.T, l []api.Module, a answer) {
	t.Helper()
	at := 0
	next := func(typ string, place api.Place) {
		want := api.Node{Kind: api.Let, Kids: 2, T: typ, At: place}
		if typ == "" {
			want.T = "?"
		}
		if at >= len(a.Term) || a.Term[at] != want {
			t.Fatalf("P12.1: no %+v at %d of %s: %s", want, at, marks{}.told(a.Term), shown(l))
		}
		at = behind(a.Term, at+1)
	}
	last := api.Def{}
	for _, m := range l {
		for _, i := range m.Imports {
			next(i.T, i.At)
		}
		for _, d := range m.Defs {
			next(d.T, d.At)
			last = d
		}
	}
	if at != len(a.Term)-1 || a.Term[at] != (api.Node{Kind: api.Var, At: last.At}) {
		t.Fatalf("P12.1: the end of %s, at %d: %s", marks{}.told(a.Term), at, shown(l))
	}
	if want := written(last.T); a.Type != want {
		t.Fatalf("P12.1: the type is %s, not %s: %s", a.Type, want, shown(l))
	}
}

// behind answers where the part at a node of a term ends.
func behind(term []api.Node, at int) int {
	for missing := 1; missing > 0; at++ {
		missing += term[at].Kids - 1
	}
	return at
}

func written(annotation string) string {
	if annotation == "" {
		return "?"
	}
	return annotation
}

// wantSound: what holds of every program.
func wantSound(t *testing.T, l []api.Module, a answer) {
	t.Helper()
	wantChecks(t, l, a)
	wantLabels(t, l, a)
	wantSpine(t, l, a)
	wantPrefixes(t, l, a)
}
