package module_test

import (
	"slices"
	"testing"

	"culprit/api"
	"culprit/tree"
)

// Modules are gone over in order, of each its name, then its imports, then its defs.
func TestOrderOfModules(t *testing.T) {
	a := "module a { export let x : int = 1; let z = 2; } "
	wantRefused(t, "module a { let x = @1q; } module a { }", api.ErrUnbound, "a")             // a def, a name behind it
	wantRefused(t, a+"module @1a { import a.z; let y = q; }", api.ErrTwice, "a")              // a name, its own import
	wantRefused(t, a+"module @1a { let y = q; }", api.ErrTwice, "a")                          // a name, its own def
	wantRefused(t, a+"module b { import a.@1z; } module a { }", api.ErrImport, "b")           // an import, a name behind it
	wantRefused(t, a+"module b { import a.@1z; let y = q; }", api.ErrImport, "b")             // an import, a def of its module
	wantRefused(t, a+"module b { import a.x; import a.@1z; let y = q; }", api.ErrImport, "b") // the second one, too
	wantRefused(t, a+"module b { let y = @1q; } module c { import a.z; }", api.ErrUnbound, "b")
	wantRefused(t, a+"module b { import a.@1z; import a.x : text; }", api.ErrImport, "b") // imports in order
	wantRefused(t, a+"module b { import a.@1x : text; import a.z; }", api.ErrType, "b")
	wantRefused(t, "module b { let x : int = @1true; let x = q; }", api.ErrType, "b") // defs in order
	wantRefused(t, "module b { let x = @1q; let y : int = true; }", api.ErrUnbound, "b")
	wantRefused(t, "module b { let x = 1; let @1x = 2; let y = q; }", api.ErrTwice, "b")
}

// Of an import: ErrTwice, ErrImport, ErrType.
func TestOrderWithinAnImport(t *testing.T) {
	a := "module a { export let x : int = 1; let z : int = 2; } "
	wantRefused(t, a+"module b { import a.x; import a.@1x : text; }", api.ErrTwice, "b")
	wantRefused(t, a+"module b { import a.x; import c.@1x : text; }", api.ErrTwice, "b")
	wantRefused(t, a+"module b { import a.@1z : text; }", api.ErrImport, "b")
}

// Of a def: ErrTwice, its tree's error, ErrType.
func TestOrderWithinADef(t *testing.T) {
	wantRefused(t, "module b { let x = 1; let @1x : int = q; }", api.ErrTwice, "b")
	wantRefused(t, "module b { let x = 1; let @1x : int = true; }", api.ErrTwice, "b")
	wantRefused(t, "module b { let x : int = 2 == @1q; }", api.ErrUnbound, "b")
	wantRefused(t, "module b { let x : int = (@1q, 1); }", api.ErrUnbound, "b")
}

// tied makes modules of a source that breaks a rule at once, and changes them by hand.
func tied(t *testing.T, change func(l []api.Module) []api.Module) []api.Module {
	t.Helper()
	l, _ := source(t, "module a { export let x = q; let x = 1; }\nmodule a { import b.y; let y : int = true; }\nmodule c { import a.x; let y : int = x; }")
	return change(l)
}

// What tree.Modules refuses has no site, and comes ahead of all.
func TestErrorsOfModulesComeFirst(t *testing.T) {
	none := map[string]struct {
		e      api.Errno
		change func(l []api.Module) []api.Module
	}{
		"a module's name":   {api.ErrTree, func(l []api.Module) []api.Module { l[2].Name = "let"; return l }},
		"no module's name":  {api.ErrTree, func(l []api.Module) []api.Module { l[2].Name = ""; return l }},
		"an import's name":  {api.ErrTree, func(l []api.Module) []api.Module { l[2].Imports[0].Name = "1"; return l }},
		"an import's From":  {api.ErrTree, func(l []api.Module) []api.Module { l[2].Imports[0].From = "if"; return l }},
		"an import's T":     {api.ErrTree, func(l []api.Module) []api.Module { l[2].Imports[0].T = ">i"; return l }},
		"a def's name":      {api.ErrTree, func(l []api.Module) []api.Module { l[2].Defs[0].Name = "a b"; return l }},
		"a def's T":         {api.ErrTree, func(l []api.Module) []api.Module { l[2].Defs[0].T = "ii"; return l }},
		"a node":            {api.ErrTree, func(l []api.Module) []api.Module { l[2].Defs[0].Tree[0].N = 1; return l }},
		"a Cast":            {api.ErrTree, func(l []api.Module) []api.Module { l[2].Defs[0].Tree[0] = api.Node{Kind: api.Cast, Kids: 1}; return l }},
		"a tree's end":      {api.ErrTree, func(l []api.Module) []api.Module { l[2].Defs[0].Tree[0] = api.Node{Kind: api.Neg, Kids: 1}; return l }},
		"no tree":           {api.ErrMany, func(l []api.Module) []api.Module { l[2].Defs[0].Tree = nil; return l }},
		"nine modules":      {api.ErrMany, func(l []api.Module) []api.Module { return append(l, make([]api.Module, 6)...) }},
		"too many imports":  {api.ErrMany, func(l []api.Module) []api.Module { l[2].Imports = make([]api.Import, 64); return l }},
		"a tree too deep":   {api.ErrDeep, func(l []api.Module) []api.Module { l[2].Defs[0].Tree = deep(65); return l }},
		"a tree too large":  {api.ErrMany, func(l []api.Module) []api.Module { l[2].Defs[0].Tree = large(4097); return l }},
		"trees, all in all": {api.ErrMany, func(l []api.Module) []api.Module { l[2].Defs[0].Tree = large(4096); return l }},
	}
	for what, c := range none {
		l := tied(t, c.change)
		if e := tree.Modules(l); e != c.e {
			t.Errorf("the tests' own modules, %s: %d", what, e)
		}
		if got := link(l); !got.equals(answer{e: c.e}) {
			t.Errorf("P12.1: %s: %s; want %d", what, shown(got), c.e)
		}
		if got := typesOf(l); !got.equals(listed{e: c.e}) {
			t.Errorf("P12.2: %s: %s; want %d", what, shown(got), c.e)
		}
	}
	l := tied(t, func(l []api.Module) []api.Module { return l })
	if got := link(l); got.e != api.ErrUnbound {
		t.Errorf("P12.1: as it is: %s", got)
	}
}

// ErrEmpty comes behind all others.
func TestEmptyComesLast(t *testing.T) {
	wantRefused(t, "module a { let x = @1q; } module b { }", api.ErrUnbound, "a")
	wantRefused(t, "module a { let x = 1; } module @1a { }", api.ErrTwice, "a")
	wantRefused(t, "module a { let x = 1; } module b { import a.@1x; }", api.ErrImport, "b")
	wantRefused(t, "module a { export let x : int = 1; } module b { import a.@1x : text; }", api.ErrType, "b")
}

// The labels: by imports and defs in order, in a def those of its tree first.
func TestOrderOfLabels(t *testing.T) {
	wantProgram(t, "module a { export let f : int -> int = @1fn (n) => @2@2n + @31; export let g = @4(1, 2); }\n"+
		"module m { import a.@5f; import a.@6g : (?, int); let y : text = @7f(@81); let z = @9first(g); }",
		"Let(>ii) [>?? >ii 3]@1 Fn(?,?)@1 [i ? 2] Add [? i 1]@2 Var0@2 Num1@3 "+
			"Let(?) [,ii ? 4]@4 Pair@4 Num1 Num2 "+
			"Let(?)@5 [>ii ? 5]@5 Var1@5 Let(,?i)@6 [? ,?i 6]@6 Var1@6 "+
			"Let(t) [? t 9] Call [? >?? 7]@7 Var1@7 [i ? 8]@8 Num1@8 "+
			"Let(?) First@9 Var1 Var0", "?",
		"a 8@2, a 1, a 17@1, a 17@4, m<a 18@5, m<a 18@6, m 3@7, m 4@8, m 17")
}

// The places of what stands nowhere in a source are none, and just so they are told.
func TestPlacesAreTakenAsTheyAre(t *testing.T) {
	one := []api.Node{{Kind: api.Num, N: 1}}
	l := []api.Module{{Name: "a", Defs: []api.Def{{Name: "x", Export: true, Tree: one}}}, {Name: "m", Imports: []api.Import{{From: "a", Name: "x", T: "i"}}, Defs: []api.Def{{Name: "y", T: "i", Tree: one, At: api.Place{Line: -7, Col: 3}}}}}
	got := link(l)
	if want := []api.Site{{Module: "a", Rule: 17}, {Module: "m", Exporter: "a", Rule: 18}}; got.e != api.OK || !slices.Equal(got.Sites, want) {
		t.Errorf("P12.1: %s", got)
	}
	wantSound(t, l, got)
	l[1].Imports[0].T = "t"
	l[0].Defs[0].T = "i"
	if got := link(l); !got.equals(answer{e: api.ErrType, at: api.Site{Module: "m"}}) {
		t.Errorf("P12.1: %s", got)
	}
}
