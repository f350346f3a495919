package tree_test

import (
	"slices"
	"strings"
	"testing"

	"culprit/api"
	tested "culprit/tree"
)

func wantModules(t *testing.T, l []api.Module, e api.Errno) {
	t.Helper()
	if got := tested.Modules(l); got != e {
		t.Errorf("P5.7: Modules(%s) = %d; want %d", shown(l), got, e)
	}
}

func imports(n int) []api.Import {
	return slices.Repeat([]api.Import{{From: "a", Name: "f", T: "i"}}, n)
}

func defs(n int) []api.Def {
	return slices.Repeat([]api.Def{{Name: "x", Tree: tree(num(1))}}, n)
}

// wide: a tree of so many nodes.
func wide(nodes int) []api.Node {
	return append(tree(list(nodes-1)), slices.Repeat(tree(num(1)), nodes-1)...)
}

func TestModulesThatMayBe(t *testing.T) {
	wantModules(t, nil, api.OK)
	wantModules(t, []api.Module{}, api.OK)
	wantModules(t, []api.Module{{Name: "m"}}, api.OK)
	wantModules(t, []api.Module{{Name: "m", Imports: []api.Import{}, Defs: []api.Def{}}}, api.OK)
	wantModules(t, []api.Module{
		{Name: "m", At: api.Place{Line: -1}, Defs: []api.Def{{Name: "x", Export: true, T: "i", Tree: tree(num(1)), At: api.Place{Col: 9}}, {Name: "y", Tree: tree(name("x"))}}},
		{Name: "n", Imports: []api.Import{{From: "m", Name: "x", T: "?", At: api.Place{Line: 7}}, {From: "m", Name: "x"}}, Defs: []api.Def{{Name: "z", T: ">??", Tree: tree(fn("a"), name("x"))}}},
	}, api.OK)
	// Whether names are bound, or twice there, is not asked here.
	wantModules(t, []api.Module{{Name: "m", Defs: defs(2)}, {Name: "m", Imports: imports(2)}}, api.OK)
}

// one: some modules with everything in them, and what one change makes of them.
func one(change func(m *api.Module)) []api.Module {
	m := api.Module{Name: "m", Imports: imports(2), Defs: []api.Def{{Name: "x", T: "i", Tree: tree(num(1))}, {Name: "y", Tree: tree(with(api.Neg), num(1))}}}
	change(&m)
	return []api.Module{{Name: "ahead", Defs: defs(1)}, m, {Name: "behind", Imports: imports(1)}}
}

func TestModulesWithNoNamesAndNoAnnotations(t *testing.T) {
	wantModules(t, one(func(*api.Module) {}), api.OK)
	for _, s := range sayings() {
		e := api.ErrTree
		if s.name {
			e = api.OK
		}
		wantModules(t, one(func(m *api.Module) { m.Name = s.s }), e)
		wantModules(t, one(func(m *api.Module) { m.Imports[0].From = s.s }), e)
		wantModules(t, one(func(m *api.Module) { m.Imports[0].Name = s.s }), e)
		wantModules(t, one(func(m *api.Module) { m.Imports[1].From = s.s }), e)
		wantModules(t, one(func(m *api.Module) { m.Imports[1].Name = s.s }), e)
		wantModules(t, one(func(m *api.Module) { m.Defs[0].Name = s.s }), e)
		wantModules(t, one(func(m *api.Module) { m.Defs[1].Name = s.s }), e)
		e = api.ErrTree
		if s.typ || s.s == "" {
			e = api.OK
		}
		wantModules(t, one(func(m *api.Module) { m.Imports[0].T = s.s }), e)
		wantModules(t, one(func(m *api.Module) { m.Imports[1].T = s.s }), e)
		wantModules(t, one(func(m *api.Module) { m.Defs[0].T = s.s }), e)
		wantModules(t, one(func(m *api.Module) { m.Defs[1].T = s.s }), e)
	}
}

func TestModulesWithNoTrees(t *testing.T) {
	for _, c := range []struct {
		l []api.Node
		e api.Errno
	}{
		{nil, api.ErrMany},
		{[]api.Node{}, api.ErrMany},
		{wide(4097), api.ErrMany},
		{tree(num(-1)), api.ErrTree},
		{tree(num(1), num(1)), api.ErrTree},
		{tree(with(api.Neg)), api.ErrTree},
		{tree(api.Node{Kind: api.Cast, Kids: 1, T: "i", U: "?", N: 1}, num(1)), api.ErrTree},
		{nested(64), api.ErrDeep},
		{nested(63), api.OK},
	} {
		wantModules(t, one(func(m *api.Module) { m.Defs[0].Tree = c.l }), c.e)
		wantModules(t, one(func(m *api.Module) { m.Defs[1].Tree = c.l }), c.e)
	}
}

func TestModulesLimits(t *testing.T) {
	some := slices.Repeat([]api.Module{{Name: "m", Defs: defs(1)}}, 9)
	wantModules(t, some[:8], api.OK)
	wantModules(t, some, api.ErrMany)
	for n := range 65 {
		wantModules(t, []api.Module{{Name: "m", Imports: imports(n), Defs: defs(64 - n)}}, api.OK)
		wantModules(t, []api.Module{{Name: "m", Imports: imports(n + 1), Defs: defs(64 - n)}}, api.ErrMany)
		wantModules(t, []api.Module{{Name: "m", Imports: imports(n), Defs: defs(65 - n)}}, api.ErrMany)
	}
	wantModules(t, slices.Repeat([]api.Module{{Name: "m", Imports: imports(32), Defs: defs(32)}}, 8), api.OK)
	wantModules(t, []api.Module{{Name: "m", Defs: defs(64)}, {Name: "n", Defs: defs(65)}}, api.ErrMany)
}

func TestModulesLimitOfNodes(t *testing.T) {
	def := func(l []api.Node) []api.Def { return []api.Def{{Name: "x", Tree: l}} }
	wantModules(t, []api.Module{{Name: "m", Defs: def(wide(4096))}}, api.OK)
	wantModules(t, []api.Module{{Name: "m", Defs: append(def(wide(4095)), defs(1)...)}}, api.OK)
	wantModules(t, []api.Module{{Name: "m", Defs: append(def(wide(4096)), defs(1)...)}}, api.ErrMany)
	wantModules(t, []api.Module{{Name: "m", Defs: def(wide(4000))}, {Name: "n", Defs: def(wide(96))}}, api.OK)
	wantModules(t, []api.Module{{Name: "m", Defs: def(wide(4000))}, {Name: "n", Defs: def(wide(97))}}, api.ErrMany)
	wantModules(t, slices.Repeat([]api.Module{{Name: "m", Defs: def(wide(512))}}, 8), api.OK)
	wantModules(t, append(slices.Repeat([]api.Module{{Name: "m", Defs: def(wide(512))}}, 7), api.Module{Name: "m", Defs: def(wide(513))}), api.ErrMany)
}

// Of several errors the one that the promise names first.
func TestModulesOrder(t *testing.T) {
	none, deep, empty := api.Module{Name: "let"}, api.Def{Name: "x", Tree: nested(64)}, api.Def{Name: "x"}

	// Too many stand ahead of what is in them, wherever that is.
	wantModules(t, slices.Repeat([]api.Module{none}, 9), api.ErrMany)
	wantModules(t, []api.Module{none, {Name: "m", Defs: defs(65)}}, api.ErrMany)
	wantModules(t, []api.Module{{Name: "m", Defs: []api.Def{deep}}, {Name: "m", Imports: imports(65)}}, api.ErrMany)
	wantModules(t, []api.Module{{Name: "m", Imports: append(imports(64), api.Import{}), Defs: []api.Def{deep}}}, api.ErrMany)

	// By modules; of each its name, its imports, its defs.
	wantModules(t, []api.Module{{Name: "m", Defs: []api.Def{deep}}, none}, api.ErrDeep)
	wantModules(t, []api.Module{none, {Name: "m", Defs: []api.Def{deep}}}, api.ErrTree)
	wantModules(t, []api.Module{{Name: "let", Defs: []api.Def{deep}}}, api.ErrTree)
	wantModules(t, []api.Module{{Name: "m", Imports: []api.Import{{From: "a", Name: "let"}}, Defs: []api.Def{deep}}}, api.ErrTree)
	wantModules(t, []api.Module{{Name: "m", Imports: []api.Import{{From: "a", Name: "f", T: "ii"}}, Defs: []api.Def{empty}}}, api.ErrTree)
	wantModules(t, []api.Module{{Name: "m", Defs: []api.Def{deep, empty, {Name: "let"}}}}, api.ErrDeep)
	wantModules(t, []api.Module{{Name: "m", Defs: []api.Def{empty, deep, {Name: "let"}}}}, api.ErrMany)
	wantModules(t, []api.Module{{Name: "m", Defs: []api.Def{{Name: "let"}, deep, empty}}}, api.ErrTree)

	// Of a def its name and its annotation ahead of its tree.
	wantModules(t, []api.Module{{Name: "m", Defs: []api.Def{{Name: "let", Tree: nested(64)}}}}, api.ErrTree)
	wantModules(t, []api.Module{{Name: "m", Defs: []api.Def{{Name: "x", T: "z", Tree: nested(64)}}}}, api.ErrTree)
	wantModules(t, []api.Module{{Name: "m", Defs: []api.Def{{Name: "x", T: strings.Repeat("l", 65)}}}}, api.ErrTree)

	// All nodes together behind all else.
	wantModules(t, []api.Module{{Name: "m", Defs: []api.Def{{Name: "x", Tree: wide(4096)}, deep}}}, api.ErrDeep)
	wantModules(t, []api.Module{{Name: "m", Defs: []api.Def{{Name: "x", Tree: wide(4096)}, {Name: "y", Tree: wide(4096)}}}, none}, api.ErrTree)
}

// R5: what is handed in stays as it is, its spare room too.
func TestModulesAreLeftAlone(t *testing.T) {
	l := []api.Module{{Name: "m", Imports: imports(3)[:1], Defs: defs(3)[:1]}, {Name: "spare"}}
	wantModules(t, l[:1], api.OK)
	if l[1].Name != "spare" || !slices.Equal(l[0].Imports[:3], imports(3)) || len(l[0].Defs) != 1 || l[0].Defs[:3][2].Name != "x" {
		t.Errorf("R5: the modules are changed: %v", l)
	}
}
