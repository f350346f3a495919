package module_test

import (
	"slices"
	"strconv"
	"strings"
	"testing"

	"culprit/api"
)

// num and name: nodes without kids.
func num(n int64) api.Node { return api.Node{Kind: api.Num, N: n} }

func name(s string) api.Node { return api.Node{Kind: api.Var, S: s} }

// deep: a tree of so many nodes, one below the other, and large: one of so many, side by side.
func deep(nodes int) []api.Node {
	return append(slices.Repeat([]api.Node{{Kind: api.Neg, Kids: 1}}, nodes-1), num(1))
}

func large(nodes int) []api.Node {
	return append([]api.Node{{Kind: api.List, Kids: nodes - 1}}, slices.Repeat([]api.Node{num(1)}, nodes-1)...)
}

// placed gives each thing of modules a place of its own, in order.
func placed(l []api.Module) []api.Module {
	line := 0
	next := func() api.Place {
		line++
		return api.Place{Line: line, Col: 1000000 - line}
	}
	l = slices.Clone(l)
	for i := range l {
		m := &l[i]
		m.At = next()
		m.Imports, m.Defs = slices.Clone(m.Imports), slices.Clone(m.Defs)
		for j := range m.Imports {
			m.Imports[j].At = next()
		}
		for j := range m.Defs {
			d := &m.Defs[j]
			d.At = next()
			d.Tree = slices.Clone(d.Tree)
			for k := range d.Tree {
				d.Tree[k].At = next()
			}
		}
	}
	return l
}

// full: as many modules as may be, with as many imports and defs as may be: each imports all that the first one exports, if it isn't the first one itself.
func full(exports int, annotation string, tree []api.Node) []api.Module {
	var l []api.Module
	for i := range api.MaxModules {
		m := api.Module{Name: "m" + strconv.Itoa(i)}
		if i > 0 {
			for j := range exports {
				m.Imports = append(m.Imports, api.Import{From: "m0", Name: "x" + strconv.Itoa(j), T: annotation})
			}
		}
		for j := len(m.Imports); j < api.MaxDefs; j++ {
			m.Defs = append(m.Defs, api.Def{Name: "x" + strconv.Itoa(j), Export: true, Tree: tree})
		}
		l = append(l, m)
	}
	return placed(l)
}

func TestLimitOfModules(t *testing.T) {
	m := newModel()
	l := full(63, "", []api.Node{num(1)})
	for i := range l[0].Defs {
		l[0].Defs[i].T = "i"
	}
	a := wantAsModel(t, m, l)
	if a.e != api.OK || lets(l) != 512 || len(a.Term) != 64*2+7*(63*3+1*3)+1 || len(a.Sites) != 7*64 {
		t.Fatalf("P12.1: %d Lets: %d at %v, %d nodes, %d sites", lets(l), a.e, a.at, len(a.Term), len(a.Sites))
	}
	wantSound(t, l, a)
	far := slices.IndexFunc(a.Term, func(n api.Node) bool { return n.Kind == api.Var && n.At == l[7].Imports[0].At })
	if far < 0 || a.Term[far].N != 7*64-1 {
		t.Errorf("P12.1: how far off the first def is from the last module: the node %d", far)
	}
	l[7].Defs = append(l[7].Defs, l[7].Defs[0])
	if got := link(l); !got.equals(answer{e: api.ErrMany}) {
		t.Errorf("P12.1: 65 imports and defs: %s", shown(got))
	}
	l = full(1, "", []api.Node{num(1)})
	if got := link(append(l, api.Module{Name: "z"})); !got.equals(answer{e: api.ErrMany}) {
		t.Errorf("P12.1: nine modules: %s", shown(got))
	}
	if got := typesOf(append(l, api.Module{Name: "z"})); !got.equals(listed{e: api.ErrMany}) {
		t.Errorf("P12.2: nine modules: %s", shown(got))
	}
}

// chain: a number under so many nodes less one that each want a cast.
func chain(nodes int) []api.Node {
	l := []api.Node{num(1)}
	for i := range nodes - 1 {
		l = append([]api.Node{{Kind: api.As, Kids: 1, T: []string{"?", "b"}[i%2]}}, l...)
	}
	return l
}

// As many nodes in all as trees may have, and a cast around each of them and each import: the term is not too large for chapter 10.
func TestLimitOfNodes(t *testing.T) {
	l := full(32, "?", chain(14))
	for i := range l[0].Defs {
		l[0].Defs[i].T = "t"
	}
	l[0].Defs[0].Tree, l[0].Defs[1].Tree = chain(64), chain(28)
	l = placed(l)
	nodes, defs, imports := 0, 0, 0
	for i := range l {
		imports += len(l[i].Imports)
		for j := range l[i].Defs {
			defs++
			nodes += len(l[i].Defs[j].Tree)
			if i > 0 {
				l[i].Defs[j].T = "t"
			}
		}
	}
	a := wantAsModel(t, newModel(), l)
	if nodes != 4096 || a.e != api.OK || len(a.Sites) != nodes+imports || len(a.Term) != nodes+2*defs+3*imports+1 {
		t.Fatalf("P12.1: %d nodes: %d at %v, %d nodes, %d sites", nodes, a.e, a.at, len(a.Term), len(a.Sites))
	}
	wantSound(t, l, a)
}

// Trees of as many nodes as may be in all are taken, one more is not.
func TestLimitOfAllTrees(t *testing.T) {
	for nodes, e := range map[int]api.Errno{4095: api.OK, 4096: api.OK, 4097: api.ErrMany} {
		l := placed([]api.Module{{Name: "a", Defs: []api.Def{{Name: "x", Tree: large(2000)}}}, {Name: "b", Defs: []api.Def{{Name: "x", Tree: large(nodes - 2000)}}}})
		got := link(l)
		if got.e != e || got.at != (api.Site{}) {
			t.Errorf("P12.1: %d nodes: %d at %v", nodes, got.e, got.at)
		}
		if e == api.OK {
			wantSound(t, l, got)
		}
	}
}

// The deepest tree below the most Lets is not too deep for chapter 10.
func TestLimitOfDepth(t *testing.T) {
	l := full(63, "?", []api.Node{num(1)})
	first := append(slices.Repeat([]api.Node{{Kind: api.First, Kids: 1}}, 63), name("x0"))
	l[7].Defs[0].Tree = first
	l[7].Defs[0].T = "i"
	l = placed(l)
	a := wantAsModel(t, newModel(), l)
	if a.e != api.OK || len(a.Sites) < 64 {
		t.Fatalf("P12.1: %s", shown(a))
	}
	wantSound(t, l, a)
	last := a.Sites[len(a.Sites)-1]
	if want := (api.Site{Module: "m7", At: l[7].Defs[0].Tree[0].At, Rule: 17}); last != want {
		t.Errorf("P12.1: the last site is %+v, not %+v", last, want)
	}
	l[7].Defs[0].Tree = deep(65)
	if got := link(l); !got.equals(answer{e: api.ErrDeep}) {
		t.Errorf("P12.1: a tree too deep: %s", shown(got))
	}
}

// Types of as many letters as may be, names as long as may be.
func TestLimitOfLettersAndNames(t *testing.T) {
	long := strings.Repeat("l", 63)
	called := strings.Repeat("n", 32)
	l := placed([]api.Module{
		{Name: called, Defs: []api.Def{{Name: called, Export: true, T: long + "i", Tree: []api.Node{{Kind: api.List}}}}},
		{Name: "m", Imports: []api.Import{{From: called, Name: called, T: long + "?"}}, Defs: []api.Def{{Name: "y", T: long + "t", Tree: []api.Node{name(called)}}}}})
	a := wantAsModel(t, newModel(), l)
	if want := "Let(" + long + "i) [l? " + long + "i 1] List0(?) Let(" + long + "?) [" + long + "i " + long + "? 2] Var0 Let(" + long + "t) [" + long + "? " + long + "t 3] Var0 Var0"; (marks{}).told(a.Term) != want {
		t.Errorf("P12.1: %s", a)
	}
	wantSound(t, l, a)
	if got := typesOf(l); !got.equals(listed{names: []string{called + "." + called, "m.y"}, types: []string{"l?", long + "?"}}) {
		t.Errorf("P12.2: %+v", got)
	}
	// A type that would be too long, at the node where it would come about.
	l[1].Defs[0].Tree = []api.Node{{Kind: api.Pair, Kids: 2, At: api.Place{Line: 3, Col: 5}}, num(1), {Kind: api.Box, Kids: 1, At: api.Place{Line: 9, Col: 9}}, name(called)}
	l[1].Imports[0].T = long + "i"
	if got := link(l); !got.equals(answer{e: api.ErrLarge, at: api.Site{Module: "m", At: api.Place{Line: 9, Col: 9}}}) {
		t.Errorf("P12.1: a type too long: %s", got)
	}
	l[0].Defs[0].T = long + "li"
	if got := link(l); !got.equals(answer{e: api.ErrTree}) {
		t.Errorf("P12.1: an annotation too long: %s", got)
	}
}
