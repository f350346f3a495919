package print_test

import (
	"math"
	"slices"
	"strings"
	"testing"

	"culprit/api"
	tested "culprit/print"
	"culprit/tree"
)

// wordy makes a list of names whose text has just so many bytes.
func wordy(bytes int) []api.Node {
	names := (bytes + 33) / 34 // of 32 bytes at most, and two around and between
	extra := 34*names - bytes
	l := []api.Node{{Kind: api.List, Kids: names}}
	for range names {
		cut := min(extra, api.MaxName-1)
		extra -= cut
		l = append(l, api.Node{Kind: api.Var, S: strings.Repeat("n", api.MaxName-cut)})
	}
	return l
}

func TestLongExprs(t *testing.T) {
	for _, bytes := range []int{3, 34, 1000, api.MaxSource - 1, api.MaxSource} {
		if src := wantBack(t, wordy(bytes)); len(src) != bytes {
			t.Errorf("P7.1: a text of %d bytes has %d", bytes, len(src))
		}
	}
	for _, bytes := range []int{api.MaxSource + 1, api.MaxSource + 2, 2 * api.MaxSource} {
		wantRefused(t, wordy(bytes), api.ErrLong)
	}
	// The bytes of the text count, not those that a text in it stands for; brackets and blanks do.
	quotes := api.Node{Kind: api.Str, S: strings.Repeat("\"", api.MaxText)} // 130 bytes
	l := append([]api.Node{{Kind: api.List, Kids: 496}}, slices.Repeat([]api.Node{quotes}, 496)...)
	if src := wantBack(t, l[:len(l):len(l)]); len(src) != 496*132 {
		t.Errorf("P7.1: %d bytes", len(src))
	}
	l[0].Kids = 497
	wantRefused(t, append(l, quotes), api.ErrLong)
	one := append(of("Add 1"), wordy(api.MaxSource-4)...)
	wantBack(t, one)
	wantRefused(t, append(of("Add 11"), wordy(api.MaxSource-4)...), api.ErrLong)
	set := append(append(of("Neg Set"), wordy(api.MaxSource-8)...), of("x")...) // -( := x)
	if src := wantBack(t, set); len(src) != api.MaxSource {
		t.Errorf("P7.1: %d bytes", len(src))
	}
	set[0].Kind = api.Box
	wantRefused(t, set, api.ErrLong)
}

// long makes modules whose text has just MaxSource bytes, and what a change makes of them.
func long(change func(m, n *api.Module)) []api.Module {
	l := []api.Module{
		{Name: "m", Imports: []api.Import{{From: "a", Name: "f"}}, Defs: []api.Def{{Name: "x", Tree: of("1")}}},
		{Name: "n", Defs: []api.Def{{Name: "y", Tree: of("1")}}},
	}
	src, _ := tested.Modules(l)
	l[0].Defs[0].Tree = wordy(api.MaxSource - len(src) + 1)
	change(&l[0], &l[1])
	return l
}

func TestLongModules(t *testing.T) {
	if src := wantModulesBack(t, long(func(m, n *api.Module) {})); len(src) != api.MaxSource {
		t.Errorf("P7.2: %d bytes", len(src))
	}
	wantModulesBack(t, long(func(m, n *api.Module) { m.Imports = nil }))
	for _, longer := range []func(m, n *api.Module){
		func(m, n *api.Module) { m.Name = "mm" },
		func(m, n *api.Module) { n.Name = "nn" },
		func(m, n *api.Module) { m.Imports[0].From = "aa" },
		func(m, n *api.Module) { m.Imports[0].Name = "ff" },
		func(m, n *api.Module) { m.Imports[0].T = "?" },
		func(m, n *api.Module) { m.Imports = append(m.Imports, m.Imports[0]) },
		func(m, n *api.Module) { m.Defs[0].Name = "xx" },
		func(m, n *api.Module) { m.Defs[0].T = "?" },
		func(m, n *api.Module) { m.Defs[0].Export = true },
		func(m, n *api.Module) { n.Defs[0].Export = true },
		func(m, n *api.Module) { n.Defs[0].Tree = of("11") },
		func(m, n *api.Module) { n.Defs = append(n.Defs, n.Defs[0]) },
	} {
		wantNoModules(t, long(longer), api.ErrLong)
	}
	wantNoModules(t, append(long(func(m, n *api.Module) {}), api.Module{Name: "o"}), api.ErrLong)
}

// nested: as many times some nodes, and a leaf.
func nested(times int, words, leaf string) []api.Node {
	return append(slices.Repeat(of(words), times), of(leaf)...)
}

func TestDeepTrees(t *testing.T) {
	wantExpr(t, nested(63, "Neg", "1"), strings.Repeat("-", 63)+"1")
	wantRefused(t, nested(64, "Neg", "1"), api.ErrDeep)
	wantExpr(t, nested(63, "Sub 1", "2"), strings.Repeat("1 - (", 62)+"1 - 2"+strings.Repeat(")", 62))
	wantRefused(t, nested(64, "Sub 1", "2"), api.ErrDeep)
	wantExpr(t, nested(63, "List(1)", "List(0)"), strings.Repeat("[", 64)+strings.Repeat("]", 64))
	wantRefused(t, nested(64, "List(1)", "List(0)"), api.ErrDeep)
	left := append(nested(63, "Call", "f"), slices.Repeat(of("1"), 63)...)
	wantExpr(t, left, "f"+strings.Repeat("(1)", 63))
	wantRefused(t, append(append(of("Neg"), left...), of("1")...), api.ErrTree)
	wantRefused(t, append(of("Neg"), left...), api.ErrDeep)
	for _, words := range []string{"Neg Fn(x)", "Get Set z", "Mul Add 1", "If a b", "Let(x) 1", "Call f", "Less Eq 1"} {
		l := of(words)
		many := 63 / len(slices.DeleteFunc(slices.Clone(l), func(n api.Node) bool { return n.Kind == api.Num || n.Kind == api.Var }))
		l = nested(many, words, "x")
		if missing := missingKids(l); missing > 0 {
			l = append(l, slices.Repeat(of("y"), missing)...)
		}
		wantBack(t, l)
	}
}

// missingKids answers how many parts a list ends ahead of.
func missingKids(l []api.Node) int {
	missing := 1
	for _, n := range l {
		missing += n.Kids - 1
	}
	return missing
}

func TestManyNodes(t *testing.T) {
	wide := func(nodes int) []api.Node {
		return append([]api.Node{{Kind: api.List, Kids: nodes - 1}}, slices.Repeat(of("1"), nodes-1)...)
	}
	if src := wantBack(t, wide(api.MaxNodes)); src != "["+strings.Repeat("1, ", api.MaxNodes-2)+"1]" {
		t.Errorf("P7.1: %s", shown(src))
	}
	wantRefused(t, wide(api.MaxNodes+1), api.ErrMany)
	wantRefused(t, nil, api.ErrMany)
	wantRefused(t, []api.Node{}, api.ErrMany)

	two := []api.Module{{Name: "m", Defs: []api.Def{{Name: "x", Tree: wide(2000)}}}, {Name: "n", Defs: []api.Def{{Name: "y", Tree: wide(2000)}, {Name: "z", Tree: wide(96)}}}}
	wantModulesBack(t, two)
	two[1].Defs[1].Tree = wide(97)
	wantNoModules(t, two, api.ErrMany)
}

func TestManyModulesAndDefs(t *testing.T) {
	modules := slices.Repeat([]api.Module{{Name: "m"}}, api.MaxModules)
	wantModulesBack(t, modules)
	wantNoModules(t, append(modules, api.Module{Name: "m"}), api.ErrMany)
	imports := slices.Repeat([]api.Import{{From: "a", Name: "f"}}, api.MaxDefs)
	defs := slices.Repeat([]api.Def{{Name: "x", Tree: of("1")}}, api.MaxDefs)
	wantModulesBack(t, []api.Module{{Name: "m", Imports: imports}})
	wantModulesBack(t, []api.Module{{Name: "m", Defs: defs}})
	wantModulesBack(t, []api.Module{{Name: "m", Imports: imports[:30], Defs: defs[:34]}})
	wantNoModules(t, []api.Module{{Name: "m", Imports: imports[:30], Defs: defs[:35]}}, api.ErrMany)
	wantNoModules(t, []api.Module{{Name: "m", Imports: imports, Defs: defs[:1]}}, api.ErrMany)
}

func TestExprsThatAreNone(t *testing.T) {
	for _, l := range [][]api.Node{
		of("Neg"), of("Add 1"), of("1 2"), of("List(2) 1"), of("If a b"), of("Neg 1 2"),
		{{}}, {{Kind: -1}}, {{Kind: 31}}, {{Kind: math.MaxInt8}}, {{Kind: api.List, Kids: -1}}, {{Kind: api.List, Kids: math.MaxInt}},
		{{Kind: api.Cast, Kids: 1, T: "i", U: "?", N: 1}, {Kind: api.Num}},
		{{Kind: api.Neg}, {Kind: api.Num}}, {{Kind: api.Add, Kids: 1}, {Kind: api.Num}}, {{Kind: api.Num, Kids: 1}, {Kind: api.Num}},
		{{Kind: api.Num, S: "x"}}, {{Kind: api.Num, T: "i"}}, {{Kind: api.Var, S: "x", N: 1}}, {{Kind: api.Var, S: "let"}}, {{Kind: api.Str, S: "\t"}},
		{{Kind: api.Rec, Kids: 1, S: "f"}, {Kind: api.Num}}, {{Kind: api.Rec, Kids: 1, S: "f x y"}, {Kind: api.Num}}, {{Kind: api.Rec, Kids: 1, S: "f\tx"}, {Kind: api.Num}},
		{{Kind: api.Let, Kids: 2, S: "x", U: "i"}, {Kind: api.Num}, {Kind: api.Num}},
		append(of("Add 1"), api.Node{Kind: api.Num, N: -1}),
	} {
		wantRefused(t, l, api.ErrTree)
	}
}

// The error of chapter 5 comes ahead of a text that is too long, wherever its cause stands.
func TestLongAndNone(t *testing.T) {
	l := wordy(2 * api.MaxSource)
	l[len(l)-1].S = "let"
	wantRefused(t, l, api.ErrTree)
	wantRefused(t, append(nested(63, "Neg", ""), wordy(2*api.MaxSource)...), api.ErrDeep)
	wantRefused(t, append(l[:1:1], slices.Repeat(l[1:2], api.MaxNodes)...), api.ErrMany)
	wantNoModules(t, long(func(m, n *api.Module) { m.Name, n.Defs[0].Tree = "mm", of("Neg") }), api.ErrTree)
	wantNoModules(t, long(func(m, n *api.Module) { m.Name, n.Defs[0].Tree = "mm", nested(64, "Neg", "1") }), api.ErrDeep)
	wantNoModules(t, long(func(m, n *api.Module) { m.Name, n.Defs[0].Tree = "mm", nil }), api.ErrMany)
	wantNoModules(t, long(func(m, n *api.Module) { m.Name, n.Name = "mm", "1" }), api.ErrTree)
	wantNoModules(t, append(long(func(m, n *api.Module) { m.Name = "mm" }), make([]api.Module, api.MaxModules)...), api.ErrMany)
}

func TestModulesThatAreNone(t *testing.T) {
	some := func(change func(m *api.Module)) []api.Module {
		m := api.Module{Name: "m", Imports: []api.Import{{From: "a", Name: "f", T: "i"}}, Defs: []api.Def{{Name: "x", Tree: of("1")}, {Name: "y", T: "i", Tree: of("Neg 1")}}}
		change(&m)
		return []api.Module{{Name: "ahead"}, m, {Name: "behind"}}
	}
	wantModulesBack(t, some(func(m *api.Module) {}))
	for _, c := range []struct {
		e      api.Errno
		change func(m *api.Module)
	}{
		{api.ErrTree, func(m *api.Module) { m.Name = "" }},
		{api.ErrTree, func(m *api.Module) { m.Name = "let" }},
		{api.ErrTree, func(m *api.Module) { m.Imports[0].From = "a.b" }},
		{api.ErrTree, func(m *api.Module) { m.Imports[0].Name = strings.Repeat("n", 33) }},
		{api.ErrTree, func(m *api.Module) { m.Imports[0].T = "int" }},
		{api.ErrTree, func(m *api.Module) { m.Defs[0].Name = "x y" }},
		{api.ErrTree, func(m *api.Module) { m.Defs[1].T = ">i" }},
		{api.ErrMany, func(m *api.Module) { m.Defs[1].Tree = nil }},
		{api.ErrTree, func(m *api.Module) { m.Defs[1].Tree = of("1 2") }},
		{api.ErrTree, func(m *api.Module) { m.Defs[0].Tree = of("Add 1") }},
		{api.ErrDeep, func(m *api.Module) { m.Defs[0].Tree = nested(64, "Neg", "1") }},
	} {
		wantNoModules(t, some(c.change), c.e)
	}
}

// Whatever is refused is refused with chapter 5's error, and nothing beside it.
func TestSpoiltTrees(t *testing.T) {
	var d dice = 13
	told := map[api.Errno]int{}
	for range 5000 {
		l := d.grown(1+d.below(60), 10)
		at := d.below(len(l))
		switch d.below(5) {
		case 0:
			l = l[:at]
		case 1:
			l[at].Kind = int8(d.below(256))
		case 2:
			l[at].Kids += d.below(3) - 1
		case 3:
			l[at].S, l[at].T = d.one("", "x", "f x", "let"), d.one("", "i", "ii")
		case 4:
			l = slices.Insert(l, at, d.filled(int8(1+d.below(29))))
		}
		e, _ := tree.Check(l)
		told[e]++
		m := []api.Module{{Name: "m", Defs: []api.Def{{Name: "x", Tree: l}}}}
		if e == api.OK {
			wantBack(t, l)
			wantModulesBack(t, m)
			continue
		}
		wantRefused(t, l, e)
		wantNoModules(t, m, e)
	}
	if told[api.OK] < 100 || told[api.ErrMany] < 10 || told[api.ErrTree] < 1000 {
		t.Errorf("too few kinds of lists were dealt: %v", told)
	}
}

// R5: what is handed in is left as it is, its spare room too.
func TestListsAreLeftAlone(t *testing.T) {
	room := of("Call Fn(x|i) Neg x List(2) 1 2 9 Neg If 1")
	room[0].At = api.Place{Line: 3, Col: 4}
	defs := []api.Def{{Name: "x", Tree: room[:7]}, {Name: "y", Export: true, T: "i", Tree: room[7:8]}, {Name: "spare"}}
	imports := []api.Import{{From: "a", Name: "f"}, {From: "spare"}}
	modules := []api.Module{{Name: "m", Imports: imports[:1], Defs: defs[:2]}, {Name: "spare"}}
	before, beforeImports := slices.Clone(room), slices.Clone(imports)
	wantExpr(t, room[:7], "(fn (x : int) => -x)([1, 2])")
	for range 2 {
		wantModules(t, modules[:1], "module m {", "  import a.f;", "  let x = (fn (x : int) => -x)([1, 2]);", "  export let y : int = 9;", "}")
	}
	if !slices.Equal(room, before) || !slices.Equal(imports, beforeImports) || defs[2].Name != "spare" || !sameDef(defs[0], api.Def{Name: "x", Tree: before[:7]}) || modules[1].Name != "spare" || modules[0].Name != "m" {
		t.Errorf("R5: what was handed in is changed: %v, %v, %v", room, imports, modules)
	}
}
