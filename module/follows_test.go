package module_test

import (
	"slices"
	"strings"
	"testing"

	"culprit/api"
	"culprit/core"
	"culprit/relate"
)

// wantPrefixes: what the first modules become does not hang on those behind.
func wantPrefixes(t *testing.T, l []api.Module, whole answer) {
	t.Helper()
	for n := range len(l) {
		part := link(l[:n])
		if n == 0 || len(l[n-1].Defs) == 0 {
			if !part.equals(answer{e: api.ErrEmpty}) {
				t.Fatalf("P12.1: the first %d modules: %s; want ErrEmpty: %s", n, shown(part), shown(l))
			}
			continue
		}
		if part.e != api.OK || part.at != (api.Site{}) {
			t.Fatalf("what follows: the first %d modules do not link: %s: %s", n, shown(part), shown(l))
		}
		if len(part.Sites) > len(whole.Sites) || !slices.Equal(part.Sites, whole.Sites[:len(part.Sites)]) {
			t.Fatalf("what follows: the first %d modules have the sites %v, all %v", n, part.Sites, whole.Sites)
		}
		begin := part.Term[:len(part.Term)-1]
		if len(begin) > len(whole.Term) || !slices.Equal(begin, whole.Term[:len(begin)]) {
			t.Fatalf("what follows: the first %d modules become %s, all %s", n, marks{}.told(part.Term), marks{}.told(whole.Term))
		}
	}
}

// The term checks, with the program's type, where every kind of cast and binder stands in it; no name of it is free. (wantSound asks it of every other program of the tests.)
func TestTermsCheck(t *testing.T) {
	g := maker{dice: 3}
	for range 300 {
		l := g.dealt(never)
		a := link(l)
		wantChecks(t, l, a)
		if casts, e := core.Casts(a.Term); e != api.OK || len(casts) != len(a.Sites) {
			t.Fatalf("what follows: %d casts, %d sites, %d: %s", len(casts), len(a.Sites), e, shown(l))
		}
	}
}

// unknown: has a module an annotation that is absent or has a ?, or a List without elements?
func unknown(m api.Module) bool {
	loose := func(t string) bool { return t == "" || strings.Contains(t, "?") }
	for _, x := range m.Imports {
		if loose(x.T) {
			return true
		}
	}
	for _, d := range m.Defs {
		if loose(d.T) {
			return true
		}
		for _, n := range d.Tree {
			switch n.Kind {
			case api.Fn, api.Rec:
				if loose(n.T) || loose(n.U) {
					return true
				}
			case api.Let, api.As:
				if loose(n.T) {
					return true
				}
			case api.List:
				if n.Kids == 0 {
					return true
				}
			}
		}
	}
	return false
}

// Modules without anything unknown have no cast at all.
func TestStaticModulesHaveNoCasts(t *testing.T) {
	g := maker{dice: 8}
	imports := 0
	for range 500 {
		l := g.dealt(func(int) bool { return true })
		if slices.ContainsFunc(l, unknown) {
			t.Fatalf("the tests' own maker made what is not static: %s", shown(l))
		}
		a := link(l)
		if len(a.Sites) != 0 || slices.ContainsFunc(a.Term, func(n api.Node) bool { return n.Kind == api.Cast }) {
			t.Fatalf("what follows: %s has nothing unknown, but casts: %s", shown(l), shown(a))
		}
		for _, m := range l {
			imports += len(m.Imports)
		}
	}
	if imports < 500 {
		t.Errorf("too few imports: %d", imports)
	}
}

// If just one module is so, its own labels stand at borders alone.
func TestAStaticModulesLabelsStandAtBorders(t *testing.T) {
	g := maker{dice: 9}
	borders, others, inside := 0, 0, 0
	for range 600 {
		one := g.below(5)
		l := g.dealt(func(module int) bool { return module == one })
		a := link(l)
		for _, s := range a.Sites {
			of := l[slices.IndexFunc(l, func(m api.Module) bool { return m.Name == s.Module })]
			switch {
			case unknown(of) && s.Rule == 18:
				others++
			case unknown(of):
				inside++
			case s.Rule == 18:
				borders++
			default:
				t.Fatalf("what follows: %s has nothing unknown, but a label of its own at %+v", shown(of), s)
			}
		}
	}
	t.Logf("borders of static modules %d, of others %d, inside these %d", borders, others, inside)
	if borders < 100 || others < 100 || inside < 500 {
		t.Errorf("too few labels: %d, %d, %d", borders, others, inside)
	}
}

func TestStaticByHand(t *testing.T) {
	lib := "module lib { export let f = @1fn (n : int) : int => n; } "
	wantProgram(t, lib+"module m { import lib.@2f : int -> int; let y : int = f(1); }",
		"Let(?) [>ii ? 1]@1 Fn(i,i)@1 Var0 Let(>ii)@2 [? >ii 2]@2 Var0@2 Let(i) Call Var0 Num1 Var0", "i", "lib 17@1, m<lib 18@2")
	lib = "module lib { export let f : int -> int = fn (n : int) : int => n; } "
	wantProgram(t, lib+"module m { import lib.@1f : int -> ?; let y : int = @2f@3(1); }",
		"Let(>ii) Fn(i,i) Var0 Let(>i?)@1 [>ii >i? 1]@1 Var0@1 Let(i) [? i 2]@3 Call@3 Var0@2 Num1 Var0", "i", "m<lib 18@1, m 17@3")
}

// loosened makes many annotations less precise at once, or takes them away.
func (g *maker) loosened(l []api.Module) []api.Module {
	l = placed(l)
	note := func(t *string, may bool) {
		switch turn := g.below(6); {
		case *t == "":
		case turn < 2:
			*t = g.looser(*t)
		case turn == 2 && may:
			*t = ""
		case turn == 2:
			*t = "?"
		}
	}
	for i := range l {
		for j := range l[i].Imports {
			note(&l[i].Imports[j].T, true)
		}
		for j := range l[i].Defs {
			note(&l[i].Defs[j].T, true)
			for k := range l[i].Defs[j].Tree {
				n := &l[i].Defs[j].Tree[k]
				note(&n.T, n.Kind != api.As)
				note(&n.U, true)
			}
		}
	}
	return l
}

// wantLooser: what linked links still, with types that are less precise, or the same.
func wantLooser(t *testing.T, before, after []api.Module) bool {
	t.Helper()
	a, b := link(before), link(after)
	if a.e != api.OK || b.e != api.OK || !atLeast(a.Type, b.Type) {
		t.Fatalf("what follows: made less precise, %s becomes %s: of %s, then %d at %v of %s", shown(before), shown(after), a.Type, b.e, b.at, b.Type)
	}
	s, u := typesOf(before), typesOf(after)
	if !slices.Equal(s.names, u.names) || !slices.EqualFunc(s.types, u.types, atLeast) {
		t.Fatalf("what follows: made less precise, %s has the types %+v, then %+v", shown(before), s, u)
	}
	return a.Type != b.Type
}

func TestLessPrecise(t *testing.T) {
	g := maker{dice: 14}
	changed := 0
	for i := range 600 {
		l := g.dealt(func(int) bool { return i%2 == 0 })
		for range 4 { // ever less, one behind another
			looser := g.loosened(l)
			if wantLooser(t, l, looser) {
				changed++
			}
			l = looser
		}
		wantLooser(t, l, bare(l))
	}
	if changed < 300 {
		t.Errorf("too few programs of another type: %d", changed)
	}
}

// bare: all annotations taken away, of As made ?.
func bare(l []api.Module) []api.Module {
	l = placed(l)
	for i := range l {
		for j := range l[i].Imports {
			l[i].Imports[j].T = ""
		}
		for j := range l[i].Defs {
			d := &l[i].Defs[j]
			d.T = ""
			for k, n := range d.Tree {
				d.Tree[k].T, d.Tree[k].U = "", ""
				if n.Kind == api.As {
					d.Tree[k].T = "?"
				}
			}
		}
	}
	return l
}

// By hand: each annotation of a program by itself made one step less precise.
func TestLessPreciseOneByOne(t *testing.T) {
	l, _ := source(t, "module a { export let f : (int -> int) -> [int] = fn (g : int -> int) : [int] => [g(1), g(2)]; }\n"+
		"module m { import a.f : (int -> int) -> [int]; let h : int -> int = rec h (n : int) : int => let k : int = n in if k == 0 then 0 else h(k - 1); let y : [int] = f(h); }")
	if a := link(l); a.e != api.OK || len(a.Sites) != 0 {
		t.Fatalf("the test's own modules: %s", a)
	}
	times := 0
	each := func(note *string) {
		before := *note
		for _, t2 := range append(relate.Looser(before), "") {
			*note = t2
			changed := placed(l)
			*note = before
			wantLooser(t, l, changed)
			times++
		}
	}
	each(&l[0].Defs[0].T)
	each(&l[1].Imports[0].T)
	each(&l[1].Defs[0].T)
	each(&l[1].Defs[1].T)
	for _, d := range slices.Concat(l[0].Defs, l[1].Defs) {
		for i := range d.Tree {
			if d.Tree[i].T != "" {
				each(&d.Tree[i].T)
			}
			if d.Tree[i].U != "" {
				each(&d.Tree[i].U)
			}
		}
	}
	if times < 20 {
		t.Errorf("too few annotations: %d", times)
	}
}

// What modules ahead become does not hang on those behind, not even on what these import of them.
func TestModulesAhead(t *testing.T) {
	a := "module a { export let x = 1; export let f : int -> ? = fn (n) => n; }\n"
	l, _ := source(t, a+"module b { import a.x : int; let y = x; }\nmodule c { import a.f : ? -> text; let z : text = f(true); }")
	whole := link(l)
	if whole.e != api.OK {
		t.Fatalf("the test's own modules: %s", whole)
	}
	wantPrefixes(t, l, whole)
	for n, sites := range []int{0, 2, 4} {
		if part := link(l[:n]); n > 0 && len(part.Sites) != sites {
			t.Errorf("P12.1: the first %d modules: %s", n, part)
		}
	}
	// Behind them stands what makes the whole one fail: they link by themselves.
	l, _ = source(t, a+"module b { import a.@1g; }")
	if got := link(l[:1]); got.e != api.OK || !slices.Equal(got.Sites, whole.Sites[:2]) {
		t.Errorf("what follows: %s", got)
	}
}
