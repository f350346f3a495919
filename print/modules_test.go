package print_test

import (
	"strings"
	"testing"

	"culprit/api"
	"culprit/types"
)

// linesOf follows the chapter: a module's lines, without the byte 10 behind each.
func linesOf(m api.Module) []string {
	typed := func(t string) string {
		if words, e := types.Words(t); e == api.OK {
			return " : " + words
		}
		return ""
	}
	lines := []string{"module " + m.Name + " {"}
	for _, i := range m.Imports {
		lines = append(lines, "  import "+i.From+"."+i.Name+typed(i.T)+";")
	}
	for _, d := range m.Defs {
		let := "  let "
		if d.Export {
			let = "  export let "
		}
		lines = append(lines, let+d.Name+typed(d.T)+" = "+theTable().write(d.Tree, never)+";")
	}
	return append(lines, "}")
}

func TestModulesOfTheTable(t *testing.T) {
	wantModules(t, []api.Module{{Name: "m", Imports: []api.Import{{From: "a", Name: "f", T: "i"}}, Defs: []api.Def{{Name: "x", Export: true, Tree: of("1")}}}},
		"module m {", "  import a.f : int;", "  export let x = 1;", "}")
}

func TestNothing(t *testing.T) {
	wantModules(t, nil)
	wantModules(t, []api.Module{})
	wantModules(t, []api.Module{{Name: "m"}}, "module m {", "}")
	wantModules(t, []api.Module{{Name: "m", Imports: []api.Import{}, Defs: []api.Def{}}}, "module m {", "}")
	wantModules(t, []api.Module{{Name: "m"}, {Name: "n"}, {Name: "m"}}, "module m {", "}", "module n {", "}", "module m {", "}")
}

func TestImports(t *testing.T) {
	wantModules(t, []api.Module{{Name: "m", Imports: []api.Import{{From: "a", Name: "f"}}}}, "module m {", "  import a.f;", "}")
	wantModules(t, []api.Module{{Name: "m", Imports: []api.Import{{From: "b", Name: "g", T: "?"}, {From: "a", Name: "f"}, {From: "a", Name: "f", T: ">>ii,bl?"}}}},
		"module m {", "  import b.g : ?;", "  import a.f;", "  import a.f : (int -> int) -> (bool, [?]);", "}")
}

func TestDefs(t *testing.T) {
	for _, c := range []struct {
		d    api.Def
		line string
	}{
		{api.Def{Name: "x", Tree: of("1")}, "  let x = 1;"},
		{api.Def{Name: "x", Export: true, Tree: of("1")}, "  export let x = 1;"},
		{api.Def{Name: "y_2", T: "i", Tree: of("x")}, "  let y_2 : int = x;"},
		{api.Def{Name: "y", T: "?", Export: true, Tree: of("x")}, "  export let y : ? = x;"},
		{api.Def{Name: "f", T: "x>i?", Tree: of("Box Fn(n|i|?) Add n 1")}, "  let f : box (int -> ?) = box(fn (n : int) : ? => n + 1);"},
		{api.Def{Name: "z", Tree: of("Fn(x) x")}, "  let z = fn (x) => x;"},
		{api.Def{Name: "z", Tree: of("Set a Let(x) 1 x")}, "  let z = a := let x = 1 in x;"},
		{api.Def{Name: "z", Tree: of("Eq If a b c Less 1 2")}, "  let z = (if a then b else c) == (1 < 2);"},
		{api.Def{Name: "z", Tree: []api.Node{{Kind: api.Str, S: "a;\n}"}}}, `  let z = "a;\n}";`},
	} {
		wantModules(t, []api.Module{{Name: "m", Defs: []api.Def{c.d}}}, "module m {", c.line, "}")
	}
}

// Each in its order, each module closed ahead of the next one.
func TestModulesInOrder(t *testing.T) {
	long := strings.Repeat("n", api.MaxName)
	place := api.Place{Line: 5, Col: -5}
	wantModules(t, []api.Module{
		{Name: "lib", At: place, Defs: []api.Def{{Name: "inc", Export: true, T: ">ii", Tree: of("Fn(n|i|i) Add n 1"), At: place}, {Name: "b", Tree: of("Neg Neg 1")}, {Name: "a", Tree: of("b")}}},
		{Name: "empty_"},
		{Name: long, At: place, Imports: []api.Import{{From: "lib", Name: "inc", T: ">??", At: place}, {From: long, Name: long}}, Defs: []api.Def{{Name: long, Tree: of("Call inc true")}}},
	},
		"module lib {",
		"  export let inc : int -> int = fn (n : int) : int => n + 1;",
		"  let b = --1;",
		"  let a = b;",
		"}",
		"module empty_ {",
		"}",
		"module "+long+" {",
		"  import lib.inc : ? -> ?;",
		"  import "+long+"."+long+";",
		"  let "+long+" = inc(true);",
		"}")
}
