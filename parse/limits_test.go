package parse_test

import (
	"fmt"
	"slices"
	"strings"
	"testing"

	"culprit/api"
	"culprit/parse"
	"culprit/tree"
)

// typeWords: a type of so many letters, at least 1.
func typeWords(letters int) string {
	if letters%2 == 0 {
		return "box " + typeWords(letters-1)
	}
	return strings.Repeat("int -> ", letters/2) + "?"
}

// wantAtMark: the source has a mark | where the fault is to be told.
func (f face) wantAtMark(t *testing.T, marked string, e api.Errno) {
	t.Helper()
	ahead, rest, ok := strings.Cut(marked, "|")
	if !ok {
		t.Fatalf("no mark in %s", shown(marked))
	}
	f.wantRefused(t, ahead+rest, e, placed(ahead+rest, len(ahead)))
}

// 1: types of MaxType letters are taken, larger ones are told at their first token.
func TestLimitOfTypes(t *testing.T) {
	for _, shape := range []func(letters int) string{
		typeWords,
		func(n int) string { return strings.Repeat("box ", n-1) + "int" },
		func(n int) string { return strings.Repeat("[", n-1) + "int" + strings.Repeat("]", n-1) },
		func(n int) string { return "(" + typeWords(n/2) + ", " + typeWords(n-1-n/2) + ")" },
		func(n int) string { return "(" + typeWords(n-2) + ") -> ?" },
		func(n int) string { return "int -> (" + typeWords(n-2) + ")" },
		func(n int) string { return "(" + typeWords(n-2) + ", ?)" },
		func(n int) string { return "((" + typeWords(n) + "))" },
	} {
		if s, e, _ := parse.Type([]byte(shape(64))); e != api.OK || len(s) != 64 {
			t.Errorf("P6.2: a type of 64 letters, %s: %s, %d", shape(64), s, e)
		}
		for _, where := range []struct {
			f   face
			src string
		}{
			{typeFace(), "\n |T"},
			{exprFace(), "(1 : |T)"},
			{exprFace(), "fn (x : |T) => x"},
			{exprFace(), "fn (x) : |T => x"},
			{exprFace(), "rec f (x : |T) => x"},
			{exprFace(), "rec f (x) : |T => x"},
			{exprFace(), "let x : |T = 1 in 2"},
			{exprFace(), "[1, (fn (x : int) : |T => x)(2)]"},
			{modulesFace(), "module m { import a.f : |T; }"},
			{modulesFace(), "module m { let x : |T = 1; }"},
			{modulesFace(), "module m { let x = 1; export let y :\n|T = 1; }"},
			{modulesFace(), "module m { let x = 1; } module n { let x = (1\n: |T); }"},
		} {
			within := strings.ReplaceAll(strings.Replace(where.src, "|", "", 1), "T", shape(64))
			where.f.wantTaken(t, within)
			for _, letters := range []int{65, 66, 100, 1000} {
				where.f.wantAtMark(t, strings.ReplaceAll(where.src, "T", shape(letters)), api.ErrLarge)
			}
		}
	}
}

// 1: of several types the first written one; a part is no type by itself.
func TestFirstLargeType(t *testing.T) {
	large, full := typeWords(65), typeWords(64)
	for _, src := range []string{
		"fn (x : |L) : L => x", "fn (x : F) : |L => (x : L)", "(fn (x : |L) => x : L)", "let x : |L = (1 : L) in (2 : L)", "let x : F = (1 : |L) in (2 : L)", "let x = 1 in ((2 : |L) : L)", "(((1 : |L) : F) : L)",
		"(1 : |(L, L))", "(1 : |[L])", "(1 : |box (L))", "(1 : |int -> L)", "(1 : |(int, int -> L))", "(1 : |(((L))))",
	} {
		exprFace().wantAtMark(t, strings.ReplaceAll(strings.ReplaceAll(src, "L", large), "F", full), api.ErrLarge)
	}
	modulesFace().wantAtMark(t, "module m { import a.f : |"+large+"; let x : "+large+" = 1; }", api.ErrLarge)
	modulesFace().wantAtMark(t, "module m { import a.f; let x : |"+large+" = (1 : "+large+"); } module n { import a.f : "+large+"; }", api.ErrLarge)
	wantType(t, "("+typeWords(31)+", [["+typeWords(30)+"]])", ","+strings.Repeat(">i", 15)+"?ll>xi"+strings.Repeat(">i", 13)+"?")
}

// 2: a ninth module, told at its name.
func TestLimitOfModules(t *testing.T) {
	eight := strings.Repeat("module m { let x = 1; }\n", 8)
	if l, e, _ := parse.Modules([]byte(eight)); e != api.OK || len(l) != 8 || tree.Modules(l) != api.OK {
		t.Errorf("P6.1: eight modules: %d, %d", len(l), e)
	}
	modulesFace().wantAtMark(t, eight+"module |n { }", api.ErrMany)
	modulesFace().wantAtMark(t, eight+"module\n|n { let x = 1; } module o { } module p { }", api.ErrMany)
	modulesFace().wantAtMark(t, eight+"module n { |", api.ErrParse)
	modulesFace().wantAtMark(t, strings.Repeat("module m{}", 8)+"module |m{}"+strings.Repeat("module m{}", 5000), api.ErrMany)
}

// items: the inside of a module.
func items(imports, defs int) string {
	return strings.Repeat("import a.f; ", imports) + strings.Repeat("let x = 1; ", defs)
}

// 2: a 65th import or def, told at its name.
func TestLimitOfDefs(t *testing.T) {
	f := modulesFace()
	for n := range 65 {
		f.wantTaken(t, "module m { "+items(n, 64-n)+"}")
		f.wantAtMark(t, "module m { "+items(n, 64-n)+"export let |x : ? = 1; }", api.ErrMany)
	}
	f.wantAtMark(t, "module m { "+items(64, 0)+"import a.|g; }", api.ErrMany)
	f.wantAtMark(t, "module m { "+items(64, 0)+"import a.|g : int; import a.h; let x = 1; }", api.ErrMany)
	f.wantAtMark(t, "module m { "+items(10, 54)+"let |y = 1; "+items(0, 100)+"}", api.ErrMany)
	f.wantTaken(t, strings.Repeat("module m { "+items(32, 32)+"}", 8))

	// By modules: the first one that has too many.
	f.wantAtMark(t, "module m { "+items(0, 64)+"let |y = 1; } module n { "+items(0, 99)+"}", api.ErrMany)
	f.wantAtMark(t, "module m { "+items(0, 64)+"} module n { "+items(64, 0)+"let |y = 1; }", api.ErrMany)
	// A ninth module stands ahead of them.
	f.wantAtMark(t, "module m { "+items(0, 65)+"}"+strings.Repeat("module m { } ", 7)+"module |n { }", api.ErrMany)
	f.wantAtMark(t, strings.Repeat("module m { } ", 8)+"module |n { "+items(65, 65)+"}", api.ErrMany)
}

// wide: an expression of so many nodes.
func wide(nodes int) string {
	if nodes == 1 {
		return "1"
	}
	return "[" + strings.Repeat("1,", nodes-2) + "1]"
}

// 3: MaxNodes nodes of all trees together are taken; the def with which there are more is told at its name.
func TestLimitOfNodes(t *testing.T) {
	f := modulesFace()
	def := func(name string, nodes int) string { return fmt.Sprintf("let %s = %s; ", name, wide(nodes)) }
	f.wantTaken(t, "module m { "+def("x", 4096)+"}")
	f.wantAtMark(t, "module m { "+def("|x", 4097)+"}", api.ErrMany)
	f.wantAtMark(t, "module m { export let x = 1; "+def("|y", 4096)+def("z", 4097)+"}", api.ErrMany)
	f.wantAtMark(t, "module m { "+def("x", 4096)+def("|y", 1)+def("z", 1)+"}", api.ErrMany)
	f.wantTaken(t, "module m { "+def("x", 4095)+def("y", 1)+"} module n { }")
	f.wantTaken(t, strings.Repeat("module m { "+def("x", 500)+def("y", 12)+"}", 8))
	f.wantAtMark(t, strings.Repeat("module m { "+def("x", 500)+def("y", 12)+"}", 7)+"module m { "+def("x", 500)+def("|y", 13)+"}", api.ErrMany)
	f.wantAtMark(t, "module m { "+def("x", 4000)+"} module n { "+def("x", 96)+def("|y", 1)+"} module o { "+def("z", 5000)+"}", api.ErrMany)
	l, _, _ := parse.Modules([]byte("module m { " + def("x", 4095) + def("y", 1) + "}"))
	if tree.Modules(l) != api.OK || len(l[0].Defs[0].Tree) != 4095 {
		t.Errorf("P6.1: of 4096 nodes %d are answered", len(l[0].Defs[0].Tree))
	}

	// Brackets, annotations, imports are no nodes; every node is one.
	f.wantTaken(t, "module m { import a.f; let x : int = (("+wide(4096)+")); }")
	for _, c := range []struct {
		src   string
		nodes int
	}{
		{"W", 0}, {"(W)", 0}, {"[W, true]", 2}, {"fn (x : int) : int => W", 1}, {"rec f (x) => W", 1}, {"let x = W in y", 2}, {"if W then y else z", 3}, {"(W, \"s\")", 2}, {"(W : ?)", 1},
		{"W := 1", 2}, {"W == 1", 2}, {"W < 1", 2}, {"W + 1", 2}, {"1 - W", 2}, {"W ++ 1", 2}, {"1 * W", 2}, {"-W", 1}, {"!W", 1}, {"f(W)", 2}, {"W(1)", 2}, {"cons(1, W)", 2}, {"box(W)", 1}, {"empty(W)", 1},
	} {
		exprFace().wantTaken(t, strings.Replace(c.src, "W", wide(4096-c.nodes), 1))
		exprFace().wantAtMark(t, "\n |"+strings.Replace(c.src, "W", wide(4097-c.nodes), 1), api.ErrMany)
	}
}

// deepOf: as many nodes above a Num.
func deepOf(above int) string { return strings.Repeat("-", above) + "1" }

// 4: a tree of the depth MaxNest is taken; the first def whose tree is deeper is told at its name.
func TestLimitOfDepth(t *testing.T) {
	f := modulesFace()
	f.wantTaken(t, "module m { let x = "+deepOf(63)+"; }")
	f.wantAtMark(t, "module m { let |x = "+deepOf(64)+"; }", api.ErrDeep)
	f.wantAtMark(t, "module m { let x = "+deepOf(63)+"; export let |y = "+deepOf(64)+"; let z = "+deepOf(80)+"; }", api.ErrDeep)
	f.wantAtMark(t, "module m { let x = 1; } module n { let |x = "+deepOf(100)+"; let y = "+deepOf(64)+"; }", api.ErrDeep)
	exprFace().wantAtMark(t, "|"+strings.Repeat("-", 65)+"1", api.ErrDeep)

	// Each form is one deeper than its deepest kid; brackets are none.
	for _, src := range []string{
		"fn (x) => D", "rec f (x) => D", "let x = D in 1", "let x = 1 in D", "if D then 1 else 2", "if 1 then D else 2", "if 1 then 2 else D",
		"D := 1", "1 := D", "D == 1", "1 < D", "D + 1", "1 - D", "1 ++ D", "D * 1", "-D", "!D", "D(1)", "f(D)", "(D, 1)", "(1, D)", "(D : ?)", "[D]", "[1, D, 1]",
		"box(D)", "size(D)", "first(D)", "second(D)", "head(D)", "tail(D)", "empty(D)", "cons(D, 1)", "cons(1, D)",
	} {
		within := strings.Replace(src, "D", "("+deepOf(62)+")", 1)
		exprFace().wantTaken(t, within)
		exprFace().wantTaken(t, strings.Repeat("(", 100)+within+strings.Repeat(")", 100))
		exprFace().wantAtMark(t, "# deeper\n\t|("+strings.Replace(src, "D", "("+deepOf(63)+")", 1)+")", api.ErrDeep)
	}
	exprFace().wantTaken(t, "1"+strings.Repeat(" - 1", 63))
	exprFace().wantAtMark(t, "|1"+strings.Repeat(" - 1", 64), api.ErrDeep)
	exprFace().wantTaken(t, "f"+strings.Repeat("(1)", 63))
	exprFace().wantAtMark(t, "|f"+strings.Repeat("(1)", 64), api.ErrDeep)
	exprFace().wantTaken(t, "1"+strings.Repeat(" := 1", 63))
	exprFace().wantAtMark(t, "|1"+strings.Repeat(" := 1", 64), api.ErrDeep)
	exprFace().wantAtMark(t, "|"+deepOf(4095), api.ErrDeep)
	exprFace().wantAtMark(t, "|"+deepOf(4096), api.ErrMany)
}

// Of several limits the first of the chapter's list, wherever each is passed.
func TestWhichLimitIsTold(t *testing.T) {
	// One def each that passes a limit; it is told at the mark.
	defs := []struct {
		src string
		e   api.Errno
	}{
		{"let a : |" + typeWords(65) + " = 1; ", api.ErrLarge},
		{"let |c = " + wide(4097) + "; ", api.ErrMany},
		{"let |d = " + deepOf(64) + "; ", api.ErrDeep},
	}
	bare := func(s string) string { return strings.Replace(s, "|", "", 1) }
	for i, first := range defs {
		for _, later := range defs[i+1:] {
			modulesFace().wantAtMark(t, "module m { "+first.src+bare(later.src)+"}", first.e)
			modulesFace().wantAtMark(t, "module m { "+bare(later.src)+first.src+"}", first.e)
			modulesFace().wantAtMark(t, "module m { "+bare(later.src)+"} module n { "+first.src+"}", first.e)
		}
		// The limits of modules and defs stand between the first and the others.
		const many = "module m { } module m { } module m { } module m { } module m { } module m { } module m { } "
		ninth, full := many+"module |n { } ", items(0, 64)+"let |y = 1; "
		if i == 0 {
			modulesFace().wantAtMark(t, "module m { "+bare(full)+"}"+bare(ninth)+"module o { "+first.src+"}", first.e)
			modulesFace().wantAtMark(t, "module m { "+first.src+bare(full)+"}", first.e)
			continue
		}
		modulesFace().wantAtMark(t, "module m { "+bare(first.src)+"}"+ninth, api.ErrMany)
		modulesFace().wantAtMark(t, "module m { "+bare(first.src)+"} module m { "+full+"}", api.ErrMany)
		modulesFace().wantAtMark(t, "module m { "+full+bare(first.src)+"}", api.ErrMany)
	}
	// All of them stand behind a token that can't stand there, and that behind one that can't be.
	var all string
	for _, d := range defs {
		all += bare(d.src)
	}
	all = strings.Repeat("module m { } ", 9) + "module n { " + items(40, 0) + all + items(0, 40)
	modulesFace().wantAtMark(t, all+"|) }", api.ErrParse)
	modulesFace().wantAtMark(t, all+"|", api.ErrParse)
	modulesFace().wantAtMark(t, all+") |$ }", api.ErrByte)
	modulesFace().wantRefused(t, all+"}"+strings.Repeat(" ", api.MaxSource), api.ErrLong, api.Place{})

	exprFace().wantAtMark(t, "["+deepOf(64)+", "+wide(4097)+", (1 : |"+typeWords(65)+")]", api.ErrLarge)
	exprFace().wantAtMark(t, " |["+deepOf(64)+", "+wide(4097)+"]", api.ErrMany)
	exprFace().wantAtMark(t, " |["+wide(4000)+", "+deepOf(64)+"]", api.ErrDeep)
	exprFace().wantAtMark(t, "["+deepOf(64)+", "+wide(4097)+", (1 : "+typeWords(65)+")] |]", api.ErrParse)
	typeFace().wantAtMark(t, typeWords(65)+" |int", api.ErrParse)
	typeFace().wantAtMark(t, typeWords(65)+" int |$", api.ErrByte)
}

// R1: sources as deep as they can be.
func TestSourcesFarTooDeep(t *testing.T) {
	const most = api.MaxSource
	repeat := strings.Repeat
	f := exprFace()
	for _, opening := range []string{"(", "[", "-", "!", "f(", "1:=", "box(", "cons(1,", "(1,", "fn(x)=>", "rec f(x)=>", "if ", "if 1 then ", "if 1 then 1 else ", "let x=", "let x=1 in ", "1+(", "(-"} {
		src := repeat(opening, most/len(opening))
		f.wantRefused(t, src, api.ErrParse, at(1, len(src)+1))
		f.wantRefused(t, src[:len(src)-len(opening)]+"}", api.ErrParse, at(1, len(src)-len(opening)+1))
	}
	for _, opening := range []string{"fn(x:", "(1:", "let x:"} {
		f.wantRefused(t, opening+repeat("(", most-len(opening)), api.ErrParse, at(1, most+1))
	}
	half := most/2 - 1
	wantExpr(t, repeat("(", half)+"1"+repeat(")", half), num(1, at(1, half+1)))
	f.wantRefused(t, repeat("(", half)+"1"+repeat(")", half+1), api.ErrParse, at(1, most))
	f.wantRefused(t, repeat("[", half)+repeat("]", half), api.ErrMany, at(1, 1))
	f.wantRefused(t, repeat("-", most-1)+"1", api.ErrMany, at(1, 1))
	f.wantRefused(t, "1"+repeat("-1", half), api.ErrMany, at(1, 1))
	f.wantRefused(t, "1"+repeat("(1)", most/3-1), api.ErrMany, at(1, 1))
	f.wantRefused(t, "1"+repeat(":=1", most/3-1), api.ErrMany, at(1, 1))

	wantType(t, repeat("(", half)+"?"+repeat(")", half), "?")
	for _, src := range []string{repeat("[", half) + "?" + repeat("]", half), repeat("?->", most/3-1) + "?", repeat("box ", most/4-1) + "?", repeat("(?,", 10000) + "?" + repeat(")", 10000)} {
		typeFace().wantRefused(t, src, api.ErrLarge, at(1, 1))
	}
	typeFace().wantRefused(t, repeat("(", most), api.ErrParse, at(1, most+1))
	typeFace().wantRefused(t, repeat("box ", most/4), api.ErrParse, at(1, most+1))

	const ahead = "module m{let x="
	deep := ahead + repeat("(", 30000) + "1" + repeat(")", 30000) + ";}"
	wantModules(t, deep, api.Module{Name: "m", At: at(1, 8), Defs: []api.Def{{Name: "x", Tree: []api.Node{num(1, at(1, len(ahead)+30001))}, At: at(1, 14)}}})
	modulesFace().wantRefused(t, ahead+repeat("-", 60000)+"1;}", api.ErrMany, at(1, 14))
	modulesFace().wantRefused(t, ahead+repeat("-", 4000)+"1;}", api.ErrDeep, at(1, 14))
}

// MaxNodes nodes that are read one by one are answered one by one.
func TestTheLargestTree(t *testing.T) {
	want := []api.Node{node(api.List, 4095, at(1, 1))}
	for i := range 4095 {
		want = append(want, num(1, at(1, 2+2*i)))
	}
	wantExpr(t, wide(4096), want...)
	l, _, _ := parse.Expr([]byte(wide(4096)))
	if e, _ := tree.Check(l); e != api.OK || !slices.Equal(l, want) {
		t.Errorf("what follows: a tree of MaxNodes nodes: %d", e)
	}
}
