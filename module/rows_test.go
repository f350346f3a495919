package module_test

import (
	"slices"
	"testing"

	"culprit/api"
)

// The chapter's examples.
func TestExamples(t *testing.T) {
	for _, note := range []string{" : ?", ""} {
		wantProgram(t, "module a { export let @1x : int = 1; }\nmodule m { import a.@2x"+note+"; let @3y : int = @4x + 1; }",
			"Let(i)@1 Num1 Let(?)@2 [i ? 1]@2 Var0@2 Let(i)@3 Add [? i 2]@4 Var0@4 Num1 Var0@3", "i", "m<a 18@2, m 8@4")
	}
	wantProgram(t, "module a { export let x : int = 1; }\nmodule m { import a.x : int; let y : int = x + 1; }",
		"Let(i) Num1 Let(i) Var0 Let(i) Add Var0 Num1 Var0", "i", "")
	wantRefused(t, "module a { export let x : int = 1; }\nmodule m { import a.@1x : text; let y : int = x + 1; }", api.ErrType, "m")
	wantRefused(t, "module a { let x = 1; }\nmodule m { import a.@1x; }", api.ErrImport, "m")
	wantRefused(t, "module m { let x = 1; let @1x = 2; }", api.ErrTwice, "m")
	wantRefused(t, "module m {}\nmodule @1m {}", api.ErrTwice, "m")
	wantRefused(t, "module m { let x : int = 1; let y = @1z; }", api.ErrUnbound, "m")
	wantTypes(t, "module m { let x = 1; let f : ? = fn (y : int) : int => y; }", "m.x m.f", "i >ii")
}

// ErrEmpty has no site; Types knows it not.
func TestEmpty(t *testing.T) {
	for src, names := range map[string]string{
		"":             "",
		"module m { }": "",
		"module m { let x : int = 1; } module n { }":              "m.x",
		"module a { } module b { }":                               "",
		"module a { export let x = 1; } module b { import a.x; }": "a.x",
	} {
		l, _ := source(t, src)
		if got := link(l); !got.equals(answer{e: api.ErrEmpty}) {
			t.Errorf("P12.1: Link(%s) = %s; want ErrEmpty", src, got)
		}
		types := ""
		if names != "" {
			types = "i"
		}
		wantTypes(t, src, names, types)
	}
	wantProgram(t, "module a { }\nmodule b { let @1x : int = 1; }", "Let(i)@1 Num1 Var0@1", "i", "")
	wantTypes(t, "module a { }\nmodule b { let x : int = 1; }\nmodule c { }", "b.x", "i")
}

// The name of a module.
func TestModuleNames(t *testing.T) {
	wantRefused(t, "module a { let x = 1; } module b { let x = 1; } module @1a { let x = 1; }", api.ErrTwice, "a")
	wantRefused(t, "module a {} module b {} module @1b {} module a {}", api.ErrTwice, "b")
	// The same name as a def's, or an import's, is another thing.
	wantProgram(t, "module x { export let x : int = 1; } module y { import x.x : int; let y : int = x; }", "Let(i) Num1 Let(i) Var0 Let(i) Var0 Var0", "i", "")
}

// An import: what is asked of it.
func TestImports(t *testing.T) {
	a := "module a { export let x : int = 1; export let y : int = 2; let z : int = 3; } "
	b := "module b { export let x : text = \"s\"; } "
	wantRefused(t, a+"module m { import a.x; import a.@1x; let q = 1; }", api.ErrTwice, "m")
	wantRefused(t, a+"module m { import a.x; import a.y; import a.@1x : int; let q = 1; }", api.ErrTwice, "m")
	wantRefused(t, a+b+"module m { import a.x; import b.@1x; let q = 1; }", api.ErrTwice, "m")
	wantRefused(t, a+"module m { import a.@1z; let q = 1; }", api.ErrImport, "m") // not exported
	wantRefused(t, a+"module m { import a.@1q; let q = 1; }", api.ErrImport, "m") // no such def
	wantRefused(t, a+"module m { import c.@1x; let q = 1; }", api.ErrImport, "m") // no such module
	wantRefused(t, a+"module m { import x.@1x; let q = 1; }", api.ErrImport, "m") // a def is no module
	wantRefused(t, a+"module m { import a.@1a; let q = 1; }", api.ErrImport, "m") // a module is no def
	wantRefused(t, b+"module m { import b.@1y; let q = 1; } "+a, api.ErrImport, "m")
	wantRefused(t, "module m { import a.@1x; let q = 1; } "+a, api.ErrImport, "m") // it stands behind
	wantRefused(t, "module m { import m.@1x; export let x = 1; }", api.ErrImport, "m")
	wantRefused(t, a+"module m { import a.@1x : bool; let q = 1; }", api.ErrType, "m")
	wantRefused(t, a+"module m { import a.y : int; import a.@1x : [int]; let q = 1; }", api.ErrType, "m")
	// What a module imports it does not export.
	wantRefused(t, a+"module b { import a.x; let q = 1; } module m { import b.@1x; let q = 1; }", api.ErrImport, "m")
	// Two modules may import the same, and export the same names.
	wantProgram(t, "module a { export let x : int = 1; } module b { import a.x : int; let y : int = x; } module c { import a.x : int; let y : int = x; }",
		"Let(i) Num1 Let(i) Var0 Let(i) Var0 Let(i) Var2 Let(i) Var0 Var0", "i", "")
	wantProgram(t, "module a { export let x : int = 1; } module b { export let x : text = \"s\"; } module c { import b.x : text; let y : text = x; }",
		"Let(i) Num1 Let(t) Strs Let(t) Var0 Let(t) Var0 Var0", "t", "")
	wantProgram(t, "module a { export let x : int = 1; } module b { export let x : text = \"s\"; } module c { import a.x : int; let y : int = x; }",
		"Let(i) Num1 Let(t) Strs Let(i) Var1 Let(i) Var0 Var0", "i", "")
}

// What an import is held against is the exporter's annotation, not the type of its tree.
func TestImportsSeeAnnotations(t *testing.T) {
	wantProgram(t, "module a { export let x = @11; }\nmodule m { import a.@2x : text; let y : text = x; }",
		"Let(?) [i ? 1]@1 Num1@1 Let(t)@2 [? t 2]@2 Var0@2 Let(t) Var0 Var0", "t", "a 17@1, m<a 18@2")
	wantRefused(t, "module a { export let x : ? -> ? = fn (n : int) : int => n; }\nmodule m { import a.@1x : int; let y = 1; }", api.ErrType, "m")
	wantRefused(t, "module a { export let f : int -> ? = fn (n) => n; }\nmodule m { import a.@1f : text -> ?; let y = 1; }", api.ErrType, "m")
	wantProgram(t, "module a { export let f : int -> ? = @1fn (n) => n; }\nmodule m { import a.@2f : ? -> int; let y : int = f(@3true); }",
		"Let(>i?) [>?? >i? 1]@1 Fn(?,?)@1 Var0 Let(>?i)@2 [>i? >?i 2]@2 Var0@2 Let(i) Call Var0 [b ? 3]@3 Truth1@3 Var0", "i", "a 17@1, m<a 18@2, m 4@3")
	// Its own type inside is its annotation's.
	wantRefused(t, "module a { export let x = 1; }\nmodule m { import a.x : text; let y = @1x + 1; }", api.ErrType, "m")
	wantProgram(t, "module a { export let x = @11; }\nmodule m { import a.x; let y : int = @2x + 1; }",
		"Let(?) [i ? 1]@1 Num1@1 Let(?) Var0 Let(i) Add [? i 2]@2 Var0@2 Num1 Var0", "i", "a 17@1, m 8@2")
}

// A def: what is asked of it.
func TestDefs(t *testing.T) {
	a := "module a { export let x : int = 1; } "
	wantRefused(t, a+"module m { import a.x; let @1x = 1; }", api.ErrTwice, "m")
	wantRefused(t, a+"module m { import a.x; let y = 1; let z = 2; let @1y = 1; }", api.ErrTwice, "m")
	wantRefused(t, "module m { let x = 1; export let @1x = 1; }", api.ErrTwice, "m")
	wantProgram(t, a+"module m { let x : int = 2; }", "Let(i) Num1 Let(i) Num2 Var0", "i", "")
	wantRefused(t, "module m { let x : int = @1\"a\"; }", api.ErrType, "m")
	wantRefused(t, "module m { let x : int -> int = @1fn (n : text) : int => 1; }", api.ErrType, "m")
	wantRefused(t, "module m { let f : int = (fn (n) : text => \"a\")@1(1); }", api.ErrType, "m")
	wantProgram(t, "module m { let x : int = (1 @1: ?); }", "Let(i) [? i 2]@1 [i ? 1]@1 Num1 Var0", "i", "m 16@1, m 17@1")
}

// Errors of a tree, at the node that they name.
func TestErrorsOfTrees(t *testing.T) {
	for src, e := range map[string]api.Errno{
		"module m { let x = 1 + @1true; }":                                  api.ErrType,
		"module m { let x = 1; let y = (2, @1z); }":                         api.ErrUnbound,
		"module m { let x = @11(2); }":                                      api.ErrHead,
		"module m { let x = first(@11); }":                                  api.ErrHead,
		"module m { let x = if true then 1 else @1\"a\"; }":                 api.ErrBranch,
		"module m { let x = [1, 2, @1true]; }":                              api.ErrBranch,
		"module m { let x = (fn (n : int) : int => n)(@1\"a\"); }":          api.ErrType,
		"module m { let x = (1 @1: text); }":                                api.ErrType,
		"module m { let f = fn (n) : int => @1\"a\"; }":                     api.ErrType,
		"module m { let q = 1; let f = rec f (n : int) : int => @1\"a\"; }": api.ErrType,
	} {
		wantRefused(t, src, e, "m")
		wantRefused(t, "module a { export let x = 1; } "+src+" module b { }", e, "m")
	}
}

// What a def sees.
func TestWhatIsSeen(t *testing.T) {
	a := "module a { export let x : int = 1; let z : int = 2; } "
	wantRefused(t, a+"module m { let y = @1x; }", api.ErrUnbound, "m") // a def of another module
	wantRefused(t, a+"module m { let y = @1z; }", api.ErrUnbound, "m")
	wantRefused(t, a+"module m { import a.x; let y = @1z; }", api.ErrUnbound, "m")
	wantRefused(t, a+"module b { import a.x; let q = 1; } module m { let y = @1x; }", api.ErrUnbound, "m") // an import of another one
	wantRefused(t, "module m { let y = @1x; let x = 1; }", api.ErrUnbound, "m")                            // a def that follows
	wantRefused(t, "module m { let y = @1y; }", api.ErrUnbound, "m")                                       // itself
	wantRefused(t, "module m { let y = fn (n) => @1y(n); }", api.ErrUnbound, "m")
	wantRefused(t, a+"module m { import a.x; let y = @1a; }", api.ErrUnbound, "m") // modules are no names of trees
	wantRefused(t, "module m { let y = @1m; }", api.ErrUnbound, "m")
	// A def is seen as its annotation.
	wantRefused(t, "module m { let x : int = (1 : ?); let y = @1x ++ \"a\"; }", api.ErrType, "m")
	wantProgram(t, "module m { let x = @11; let y : text = @2x ++ \"a\"; }", "Let(?) [i ? 1]@1 Num1@1 Let(t) Join [? t 2]@2 Var0@2 Stra Var0", "t", "m 17@1, m 9@2")
}

// Distances: imports ahead of defs, the last one the nearest; binders of the tree nearer than these.
func TestDistances(t *testing.T) {
	a := "module a { export let p : int = 1; let q : int = 2; export let r : int = 3; } "
	wantProgram(t, a+"module m { import a.@1p : int; import a.@2r : int; let s : int = p + r; let u : int = p + s; let v : int = r; }",
		"Let(i) Num1 Let(i) Num2 Let(i) Num3 Let(i)@1 Var2@1 Let(i)@2 Var1@2 Let(i) Add Var1 Var0 Let(i) Add Var2 Var0 Let(i) Var2 Var0", "i", "")
	wantProgram(t, a+"module b { let z : int = 1; } module m { import a.@1r : int; import a.@2p : int; let s : int = p + r; }",
		"Let(i) Num1 Let(i) Num2 Let(i) Num3 Let(i) Num1 Let(i)@1 Var1@1 Let(i)@2 Var4@2 Let(i) Add Var0 Var1 Var0", "i", "")
	wantProgram(t, "module m { let x : int = 1; let y : int = 2; let f : int -> int = fn (n : int) : int => let x : int = n in x + y; }",
		"Let(i) Num1 Let(i) Num2 Let(>ii) Fn(i,i) Let(i) Var0 Add Var0 Var2 Var0", ">ii", "")
	wantProgram(t, "module m { let x : int = 1; let f : int -> int = rec g (n : int) : int => g(x + n); }",
		"Let(i) Num1 Let(>ii) Rec(i,i) Call Var1 Add Var2 Var0 Var0", ">ii", "")
}

// The casts around what is bound, laid and not laid.
func TestCastsOfModules(t *testing.T) {
	wantProgram(t, "module m { let @1x = @21; }", "Let(?)@1 [i ? 1]@2 Num1@2 Var0@1", "?", "m 17@2")
	wantProgram(t, "module m { let x : ? = @21; }", "Let(?) [i ? 1]@2 Num1@2 Var0", "?", "m 17@2")
	wantProgram(t, "module m { let x : int = 1; }", "Let(i) Num1 Var0", "i", "")
	wantProgram(t, "module m { let x = (@11 : ?); }", "Let(?) [i ? 1] Num1@1 Var0", "?", "m 16")
	wantProgram(t, "module m { let f : ? -> int = @1fn (n : int) => @2n; }", "Let(>?i) [>i? >?i 2]@1 Fn(i,?)@1 [i ? 1]@2 Var0@2 Var0", ">?i", "m 1@2, m 17@1")
	wantProgram(t, "module m { let l : [int] = @1[]; }", "Let(li) [l? li 1]@1 List0(?)@1 Var0", "li", "m 17@1")
	wantProgram(t, "module m { let x : ? = 1 @1+ 2; }", "Let(?) [i ? 1]@1 Add@1 Num1 Num2 Var0", "?", "m 17@1")
	lib := "module lib { export let f : int -> int = fn (n : int) : int => n; } "
	wantProgram(t, lib+"module m { import lib.@1f : int -> int; let y : int = f(1); }", "Let(>ii) Fn(i,i) Var0 Let(>ii)@1 Var0@1 Let(i) Call Var0 Num1 Var0", "i", "")
	wantProgram(t, lib+"module m { import lib.@1f : ? -> int; let y : int = f(@21); }", "Let(>ii) Fn(i,i) Var0 Let(>?i)@1 [>ii >?i 1]@1 Var0@1 Let(i) Call Var0 [i ? 2]@2 Num1@2 Var0", "i", "m<lib 18@1, m 4@2")
	wantProgram(t, lib+"module m { import lib.@1f; let y = @3f(@41); }", "Let(>ii) Fn(i,i) Var0 Let(?)@1 [>ii ? 1]@1 Var0@1 Let(?) Call [? >?? 2]@3 Var0@3 [i ? 3]@4 Num1@4 Var0", "?", "m<lib 18@1, m 3@3, m 4@4")
}

// The sites that the document's third and fourth examples of the whole tell.
func TestSitesOfTheWhole(t *testing.T) {
	l, _ := source(t, "module m { let f = fn (x) => x + 1; let y = f(\"a\"); }")
	var want []api.Site
	for _, row := range [][2]int{{30, 8}, {32, 1}, {20, 17}, {45, 3}, {47, 4}} {
		want = append(want, api.Site{Module: "m", At: api.Place{Line: 1, Col: row[0]}, Rule: row[1]})
	}
	if got := link(l); got.e != api.OK || !slices.Equal(got.Sites, want) {
		t.Errorf("P12.1: %s", got)
	}
	wantProgram(t, "module lib { export let inc : int -> int = fn (n : int) : int => n + 1; } module app { import lib.@1inc : ? -> ?; let z = inc(@2true); }",
		"Let(>ii) Fn(i,i) Add Var0 Num1 Let(>??)@1 [>ii >?? 1]@1 Var0@1 Let(?) Call Var0 [b ? 2]@2 Truth1@2 Var0", "?", "app<lib 18@1, app 4@2")
}
