package module_test

import (
	"slices"
	"testing"

	"culprit/api"
	"culprit/module"
)

// roomy: modules whose lists all have spare room, with something in it.
func roomy(l []api.Module) []api.Module {
	for i := range l {
		m := &l[i]
		m.Imports = append(m.Imports, api.Import{From: "spare", Name: "room", T: "x"})[:len(m.Imports)]
		m.Defs = append(m.Defs, api.Def{Name: "spare", T: "room"})[:len(m.Defs)]
		for j := range m.Defs {
			d := &m.Defs[j]
			d.Tree = append(d.Tree, api.Node{Kind: 77, S: "spare"}, api.Node{Kind: 78, S: "room"})[:len(d.Tree)]
		}
	}
	return append(l, api.Module{Name: "spare"})[:len(l)]
}

// everything: modules with all their spare room, as a copy.
func everything(l []api.Module) []api.Module {
	l = slices.Clone(l[:cap(l)])
	for i := range l {
		m := &l[i]
		m.Imports = slices.Clone(m.Imports[:cap(m.Imports)])
		m.Defs = slices.Clone(m.Defs[:cap(m.Defs)])
		for j := range m.Defs {
			m.Defs[j].Tree = slices.Clone(m.Defs[j].Tree[:cap(m.Defs[j].Tree)])
		}
	}
	return l
}

func alike(a, b []api.Module) bool {
	return slices.EqualFunc(a, b, func(x, y api.Module) bool {
		return x.Name == y.Name && x.At == y.At && slices.Equal(x.Imports, y.Imports) && slices.EqualFunc(x.Defs, y.Defs, func(d, f api.Def) bool {
			return d.Name == f.Name && d.Export == f.Export && d.T == f.T && d.At == f.At && slices.Equal(d.Tree, f.Tree)
		})
	})
}

// R5: what is handed in stays as it is, its spare room too.
func TestArgumentsStay(t *testing.T) {
	g := maker{dice: 31}
	for range 200 {
		l := g.dealt(never)
		for range 3 {
			l = roomy(l)
			before := everything(l)
			module.Link(l)
			module.Types(l)
			if !alike(everything(l), before) {
				t.Fatalf("R5: an argument is changed: %s", shown(l))
			}
			l = g.spoilt(l)
		}
	}
}

// R5: an answer is new memory, each list of it; R6: it is the same each time.
func TestAnswersAreNew(t *testing.T) {
	g := maker{dice: 32}
	for range 100 {
		l := roomy(g.dealt(never))
		before := everything(l)
		one, other := link(l), link(l)
		want := answer{Program: api.Program{Term: slices.Clone(one.Term), Type: one.Type, Sites: slices.Clone(one.Sites)}}
		clear(one.Term[:cap(one.Term)])
		if !slices.Equal(one.Sites, want.Sites) || !other.equals(want) {
			t.Fatalf("R5: answers share memory: %s", shown(other))
		}
		clear(one.Sites[:cap(one.Sites)])
		names, types := typesOf(l), typesOf(l)
		wantTypes := listed{names: slices.Clone(names.names), types: slices.Clone(names.types)}
		clear(names.names[:cap(names.names)])
		if !slices.Equal(names.types, wantTypes.types) {
			t.Fatalf("R5: the names and the types share memory: %+v", names)
		}
		clear(names.types[:cap(names.types)])
		if !other.equals(want) || !types.equals(wantTypes) || !alike(everything(l), before) {
			t.Fatalf("R5: answers share memory: %s, %+v", shown(other), types)
		}
		if again := link(l); !again.equals(want) {
			t.Fatalf("R6: another answer the second time: %s", shown(again))
		}
		for i := range l {
			for j := range l[i].Defs {
				clear(l[i].Defs[j].Tree[:cap(l[i].Defs[j].Tree)])
			}
			clear(l[i].Defs)
			clear(l[i].Imports)
		}
		clear(l)
		if !other.equals(want) || !types.equals(wantTypes) {
			t.Fatalf("R5: an answer shares memory with an argument: %s, %+v", shown(other), types)
		}
	}
}

// A term that is a def's tree, node by node, is new memory too.
func TestTermsWithoutCastsAreNew(t *testing.T) {
	l, _ := source(t, "module m { let x : int = 1; let y : (int, int) = (1, x); }")
	before := everything(l)
	a := link(l)
	clear(a.Term[:cap(a.Term)])
	if !alike(everything(l), before) || a.e != api.OK {
		t.Errorf("R5: the term shares memory with the trees")
	}
}

// R4: lists that are nil and those without elements are the same.
func TestEmptyLists(t *testing.T) {
	if got := link([]api.Module{}); !got.equals(answer{e: api.ErrEmpty}) {
		t.Errorf("R4: no modules: %s", got)
	}
	if got := typesOf([]api.Module{}); !got.equals(listed{}) {
		t.Errorf("R4: no modules: %+v", got)
	}
	one := []api.Node{num(1)}
	l := []api.Module{{Name: "a", Imports: []api.Import{}, Defs: []api.Def{}}, {Name: "m", Imports: []api.Import{}, Defs: []api.Def{{Name: "x", T: "i", Tree: one}}}}
	same := []api.Module{{Name: "a"}, {Name: "m", Defs: []api.Def{{Name: "x", T: "i", Tree: one}}}}
	if a, b := link(l), link(same); !a.equals(b) || a.e != api.OK {
		t.Errorf("R4: %s, %s", a, b)
	}
	l[1].Defs[0].Tree = []api.Node{}
	if got := link(l); !got.equals(answer{e: api.ErrMany}) {
		t.Errorf("R4: a tree without nodes: %s", got)
	}
}

// R1: whatever is handed in, there is an answer, and beside an error nothing else.
func TestAnythingGoesIn(t *testing.T) {
	g := maker{dice: 33}
	texts := []string{"", "a", "m", "let", "1", "a b", "?", ">", ">ii", "\x00", "é"}
	for range 20000 {
		var l []api.Module
		for range g.below(4) {
			m := api.Module{Name: g.one("a", "b", g.one(texts...))}
			for range g.below(3) {
				m.Imports = append(m.Imports, api.Import{From: g.one(texts[:4]...), Name: g.one(texts[:4]...), T: g.one("", "i", g.one(texts...))})
			}
			for range g.below(3) {
				d := api.Def{Name: g.one("a", "m", "x", g.one(texts...)), Export: g.coin(), T: g.one("", "?", g.one(texts...))}
				for range 1 + g.below(2) {
					d.Tree = append(d.Tree, api.Node{Kind: int8(g.below(33) - 1), Kids: g.below(5) / 2, N: int64(g.below(2)), S: g.one("", "a"), T: g.one("", "", "i", ">")})
				}
				if g.coin() {
					d.Tree = []api.Node{num(1)}
				}
				m.Defs = append(m.Defs, d)
			}
			l = append(l, m)
		}
		a, b := link(l), typesOf(l)
		if a.e != api.OK && !a.equals(answer{e: a.e, at: a.at}) || b.e != api.OK && !b.equals(listed{e: b.e, at: b.at}) {
			t.Fatalf("R2: %s, %+v: %s", shown(a), b, shown(l))
		}
		if a.e != b.e && !(a.e == api.ErrEmpty && b.e == api.OK) || a.at != b.at {
			t.Fatalf("P12.2: %s, %+v: %s", shown(a), b, shown(l))
		}
	}
}

// Types tells the types of trees, not the annotations, of all defs in order.
func TestTypes(t *testing.T) {
	wantTypes(t, "", "", "")
	wantTypes(t, "module m { let x : ? = 1; let y : int = (x : ?); let z = y; let w = x; let f : int -> ? = fn (n) : int => n; }", "m.x m.y m.z m.w m.f", "i ? i ? >?i")
	wantTypes(t, "module a { export let x = 1; let y = \"a\"; }\nmodule b { import a.x : text; let y = x; export let x2 = [x]; }", "a.x a.y b.y b.x2", "i t t lt")
	wantTypes(t, "module b { let z = true; let a = 1; }\nmodule a { let z = 1; }", "b.z b.a a.z", "b i i")
	wantTypes(t, "module b { let z = []; let q = if true then z else [1]; }", "b.z b.q", "l? li")
}
