package parse_test

import (
	"math"
	"slices"
	"testing"

	"culprit/api"
	"culprit/parse"
)

func node(kind int8, kids int, place api.Place) api.Node {
	return api.Node{Kind: kind, Kids: kids, At: place}
}

func num(n int64, place api.Place) api.Node {
	return api.Node{Kind: api.Num, N: n, At: place}
}

func name(s string, place api.Place) api.Node {
	return api.Node{Kind: api.Var, S: s, At: place}
}

// The chapter's examples.
func TestExprsOfTheTable(t *testing.T) {
	wantExpr(t, "1 - 2 - 3", node(api.Sub, 2, at(1, 7)), node(api.Sub, 2, at(1, 3)), num(1, at(1, 1)), num(2, at(1, 5)), num(3, at(1, 9)))
	wantExpr(t, "f(1)(2)", node(api.Call, 2, at(1, 5)), node(api.Call, 2, at(1, 2)), name("f", at(1, 1)), num(1, at(1, 3)), num(2, at(1, 6)))
	wantExpr(t, "-f(1)", node(api.Neg, 1, at(1, 1)), node(api.Call, 2, at(1, 3)), name("f", at(1, 2)), num(1, at(1, 4)))
	wantExpr(t, "!x := 1 + 2", node(api.Set, 2, at(1, 4)), node(api.Get, 1, at(1, 1)), name("x", at(1, 2)), node(api.Add, 2, at(1, 9)), num(1, at(1, 7)), num(2, at(1, 11)))
	wantExpr(t, "fn (x : int) => x + 1", api.Node{Kind: api.Fn, Kids: 1, S: "x", T: "i", At: at(1, 1)}, node(api.Add, 2, at(1, 19)), name("x", at(1, 17)), num(1, at(1, 21)))
	wantExpr(t, "rec f (n) : ? => f(n)", api.Node{Kind: api.Rec, Kids: 1, S: "f n", U: "?", At: at(1, 1)}, node(api.Call, 2, at(1, 19)), name("f", at(1, 18)), name("n", at(1, 20)))
	wantExpr(t, "(1, (2 : ?))", node(api.Pair, 2, at(1, 1)), num(1, at(1, 2)), api.Node{Kind: api.As, Kids: 1, T: "?", At: at(1, 8)}, num(2, at(1, 6)))
	wantExpr(t, "[]", node(api.List, 0, at(1, 1)))
	wantExpr(t, "((1))", num(1, at(1, 3)))
	for src, col := range map[string]int{"1 < 2 < 3": 7, "let x = 1": 10, "fn x => 1": 4, "f 1": 3} {
		exprFace().wantRefused(t, src, api.ErrParse, at(1, col))
	}
}

func TestTypesOfTheTable(t *testing.T) {
	wantType(t, "int -> [?] -> (bool, box text)", ">i>l?,bxt")
	wantType(t, "(int -> int) -> int", ">>iii")
	wantType(t, "box box int", "xxi")
	typeFace().wantRefused(t, "int ->", api.ErrParse, at(1, 7))
}

func TestModulesOfTheTable(t *testing.T) {
	wantModules(t, "module m { import a.f : int; let x = f; }", api.Module{Name: "m", At: at(1, 8),
		Imports: []api.Import{{From: "a", Name: "f", T: "i", At: at(1, 21)}},
		Defs:    []api.Def{{Name: "x", Tree: []api.Node{name("f", at(1, 38))}, At: at(1, 34)}}})
	wantModules(t, "")
	modulesFace().wantRefused(t, "module m { } let", api.ErrParse, at(1, 14))
	if l, e, place := parse.Modules(nil); len(l) != 0 || e != api.OK || place != (api.Place{}) {
		t.Errorf("P6.1: Modules(nil) = %v, %d, %v", l, e, place)
	}
}

// The table of trees, row by row, with the place of each root.
func TestTheTableOfTrees(t *testing.T) {
	for _, c := range []struct {
		src, tree string
		col       int
	}{
		{`9223372036854775807`, "Num 9223372036854775807", 1},
		{` 0`, "Num 0", 2},
		{`"a\nb\"\\"`, "Str a\nb\"\\", 1},
		{`""`, "Str ", 1},
		{`"fn"`, "Str fn", 1},
		{`"("`, "Str (", 1},
		{`true`, "Truth 1", 1},
		{` false`, "Truth 0", 2},
		{`x_1`, "Var x_1", 1},
		{`fn (x) => x`, "Fn x//(Var x)", 1},
		{`fn (x : int) => x`, "Fn x/i/(Var x)", 1},
		{`fn (x) : bool => x`, "Fn x//b(Var x)", 1},
		{` fn (x : int -> int) : int -> [int] => x`, "Fn x/>ii/>ili(Var x)", 2},
		{`rec f (x) => x`, "Rec f x//(Var x)", 1},
		{`rec f (x : int) => x`, "Rec f x/i/(Var x)", 1},
		{`rec f (x) : bool => x`, "Rec f x//b(Var x)", 1},
		{` rec f (f : ?) : (?, text) => x`, "Rec f f/?/,?t(Var x)", 2},
		{`let x = 1 in 2`, "Let x/(Num 1, Num 2)", 1},
		{` let x : box (int -> int) = 1 in 2`, "Let x/x>ii(Num 1, Num 2)", 2},
		{` if 1 then 2 else 3`, "If(Num 1, Num 2, Num 3)", 2},
		{`1 := 2`, "Set(Num 1, Num 2)", 3},
		{`1 == 2`, "Eq(Num 1, Num 2)", 3},
		{`1 < 2`, "Less(Num 1, Num 2)", 3},
		{`1 + 2`, "Add(Num 1, Num 2)", 3},
		{`1 - 2`, "Sub(Num 1, Num 2)", 3},
		{`1 ++ 2`, "Join(Num 1, Num 2)", 3},
		{`1 * 2`, "Mul(Num 1, Num 2)", 3},
		{` - 1`, "Neg(Num 1)", 2},
		{` ! 1`, "Get(Num 1)", 2},
		{`f ( 1 )`, "Call(Var f, Num 1)", 3},
		{` ( 1 , 2 )`, "Pair(Num 1, Num 2)", 2},
		{`(1 : int)`, "As i(Num 1)", 4},
		{`(1 : ((?)))`, "As ?(Num 1)", 4},
		{` [ ]`, "List()", 2},
		{` [ 1 ]`, "List(Num 1)", 2},
		{` [1, 2, 3]`, "List(Num 1, Num 2, Num 3)", 2},
		{` box(1)`, "Box(Num 1)", 2},
		{` size(1)`, "Size(Num 1)", 2},
		{` first(1)`, "First(Num 1)", 2},
		{` second(1)`, "Second(Num 1)", 2},
		{` head(1)`, "Head(Num 1)", 2},
		{` tail(1)`, "Tail(Num 1)", 2},
		{` empty(1)`, "Empty(Num 1)", 2},
		{` cons(1, 2)`, "Cons(Num 1, Num 2)", 2},
		{`( ( 1 ) )`, "Num 1", 5},
		{`(1 - 2)`, "Sub(Num 1, Num 2)", 4},
	} {
		wantTold(t, c.src, c.tree, at(1, c.col))
	}
}

func wantTold(t *testing.T, src, want string, place api.Place) {
	t.Helper()
	l, e, _ := parse.Expr([]byte(src))
	if e != api.OK || told(l) != want || l[0].At != place {
		t.Errorf("P6.2: Expr(%s) = %s, %d; want %s at %v: %v", src, told(l), e, want, place, l)
	}
}

// What takes what: each row of the grammar binds closer than those above it, and goes on as far as it may.
func TestWhatGoesOn(t *testing.T) {
	for _, c := range []struct {
		src, tree string
		col       int
	}{
		{`1 + 2 * 3`, "Add(Num 1, Mul(Num 2, Num 3))", 3},
		{`1 * 2 + 3`, "Add(Mul(Num 1, Num 2), Num 3)", 7},
		{`1 * 2 * 3`, "Mul(Mul(Num 1, Num 2), Num 3)", 7},
		{`1 + 2 - 3 ++ 4`, "Join(Sub(Add(Num 1, Num 2), Num 3), Num 4)", 11},
		{`1 ++ 2 ++ 3`, "Join(Join(Num 1, Num 2), Num 3)", 8},
		{`1 + 2 == 3 * 4`, "Eq(Add(Num 1, Num 2), Mul(Num 3, Num 4))", 7},
		{`1 < 2 - 3`, "Less(Num 1, Sub(Num 2, Num 3))", 3},
		{`1 == 2 := 3 < 4`, "Set(Eq(Num 1, Num 2), Less(Num 3, Num 4))", 8},
		{`1 := 2 := 3`, "Set(Num 1, Set(Num 2, Num 3))", 3},
		{`- 1 * - 2`, "Mul(Neg(Num 1), Neg(Num 2))", 5},
		{`--!-1`, "Neg(Neg(Get(Neg(Num 1))))", 1},
		{`!f(1)(2)`, "Get(Call(Call(Var f, Num 1), Num 2))", 1},
		{`1(2)`, "Call(Num 1, Num 2)", 2},
		{`"a"(2)`, "Call(Str a, Num 2)", 4},
		{`[1](2)`, "Call(List(Num 1), Num 2)", 4},
		{`box(1)(2)`, "Call(Box(Num 1), Num 2)", 7},
		{`cons(1, 2)(3)`, "Call(Cons(Num 1, Num 2), Num 3)", 11},
		{`(1, 2)(3)`, "Call(Pair(Num 1, Num 2), Num 3)", 7},
		{`(f)(3)`, "Call(Var f, Num 3)", 4},
		{`(fn (x) => x)(1)`, "Call(Fn x//(Var x), Num 1)", 14},
		{`fn (x) => x(1)`, "Fn x//(Call(Var x, Num 1))", 1},
		{`fn (x) => x := 1 + 2`, "Fn x//(Set(Var x, Add(Num 1, Num 2)))", 1},
		{`fn (x) => fn (y) => x == y`, "Fn x//(Fn y//(Eq(Var x, Var y)))", 1},
		{`rec f (x) => rec g (y) => x := y`, "Rec f x//(Rec g y//(Set(Var x, Var y)))", 1},
		{`let x = let y = 1 in 2 in 3 := 4`, "Let x/(Let y/(Num 1, Num 2), Set(Num 3, Num 4))", 1},
		{`let x = 1 := 2 in 3`, "Let x/(Set(Num 1, Num 2), Num 3)", 1},
		{`if a then b else c := d`, "If(Var a, Var b, Set(Var c, Var d))", 1},
		{`if a := 1 then b := 2 else if c then d else e`, "If(Set(Var a, Num 1), Set(Var b, Num 2), If(Var c, Var d, Var e))", 1},
		{`if if a then b else c then d else e`, "If(If(Var a, Var b, Var c), Var d, Var e)", 1},
		{`a := fn (x) => x`, "Set(Var a, Fn x//(Var x))", 3},
		{`a := if b then c else d := e`, "Set(Var a, If(Var b, Var c, Set(Var d, Var e)))", 3},
		{`(fn (x) => x : int -> int)`, "As >ii(Fn x//(Var x))", 14},
		{`(fn (x) : int => x, 1)`, "Pair(Fn x//i(Var x), Num 1)", 1},
		{`(let x = 1 in 2, if a then b else c)`, "Pair(Let x/(Num 1, Num 2), If(Var a, Var b, Var c))", 1},
		{`[fn (x) => x, a := b, []]`, "List(Fn x//(Var x), Set(Var a, Var b), List())", 1},
		{`f(fn (x) => x)`, "Call(Var f, Fn x//(Var x))", 2},
		{`cons(a := 1, let x = 1 in x)`, "Cons(Set(Var a, Num 1), Let x/(Num 1, Var x))", 1},
		{`box(if a then b else c)`, "Box(If(Var a, Var b, Var c))", 1},
	} {
		wantTold(t, c.src, c.tree, at(1, c.col))
	}
}

func TestTypesBySrc(t *testing.T) {
	for src, want := range map[string]string{
		"int": "i", "bool": "b", "text": "t", "?": "?", "(?)": "?", "((int))": "i",
		"int->bool->text": ">i>bt", "(int->bool)->text": ">>ibt", "int->(bool->text)": ">i>bt",
		"(int,bool)": ",ib", "((int,bool),text)": ",,ibt", "(int->int,?->?)": ",>ii>??", "((int),(bool))": ",ib",
		"[int]": "li", "[[int->?]]": "ll>i?", "[(int,?)]": "l,i?",
		"box int": "xi", "box box box ?": "xxx?", "box int -> int": ">xii", "box (int -> int)": "x>ii", "box [int] -> box (int)": ">xlixi", "box(int,int)": "x,ii",
	} {
		wantType(t, src, want)
		l, e, _ := parse.Expr([]byte("(x : " + src + ")"))
		if e != api.OK || l[0].T != want {
			t.Errorf("P6.2: (x : %s) is %v, %d", src, l, e)
		}
	}
}

func TestModulesWithPlaces(t *testing.T) {
	src := "# two\nmodule m {\n  import a.f;\n\timport b . g : ? -> int ;\n  let x = 1;\n  export let y : [int] = [x];\n}\n\nmodule n { }module\no{export let p=true;}"
	wantModules(t, src,
		api.Module{Name: "m", At: at(2, 8),
			Imports: []api.Import{{From: "a", Name: "f", At: at(3, 12)}, {From: "b", Name: "g", T: ">?i", At: at(4, 13)}},
			Defs: []api.Def{
				{Name: "x", Tree: []api.Node{num(1, at(5, 11))}, At: at(5, 7)},
				{Name: "y", Export: true, T: "li", Tree: []api.Node{node(api.List, 1, at(6, 26)), name("x", at(6, 27))}, At: at(6, 14)},
			}},
		api.Module{Name: "n", At: at(9, 8)},
		api.Module{Name: "o", At: at(10, 1), Defs: []api.Def{{Name: "p", Export: true, Tree: []api.Node{{Kind: api.Truth, N: 1, At: at(10, 16)}}, At: at(10, 14)}}})
	// Whether a name is there twice, or is bound, is not asked here.
	wantModules(t, "module m{}module m{}", api.Module{Name: "m", At: at(1, 8)}, api.Module{Name: "m", At: at(1, 18)})
}

func TestFaultsOfModules(t *testing.T) {
	f := modulesFace()
	for _, c := range []struct {
		src string
		col int
	}{
		{"x", 1}, {"let x = 1;", 1}, {"module", 7}, {"module {", 8}, {"module let", 8}, {"module m let", 10}, {"module m {", 11},
		{"module m { } }", 14}, {"module m { module n { } }", 12}, {"module m { };", 13},
		{"module m { import f; }", 20}, {"module m { import a.f.g; }", 22}, {"module m { import a.f : ; }", 25}, {"module m { import a.f = 1; }", 23}, {"module m { import a.f }", 23}, {"module m { export import a.f; }", 19},
		{"module m { let x = 1; import a.f; }", 23}, {"module m { let x = 1 }", 22}, {"module m { let x = ; }", 20}, {"module m { let x; }", 17}, {"module m { let x == 1; }", 18}, {"module m { let x = 1 in 2; }", 22},
		{"module m { let x : int; }", 23}, {"module m { export export let x = 1; }", 19}, {"module m { rec f (x) => x; }", 12}, {"module m { let x = 1;; }", 22}, {"module m { let fn = 1; }", 16}, {`module m { let "x" = 1; }`, 16},
		{`module "m" { }`, 8}, {`"module" m { }`, 1}, {`module m "{" }`, 10}, {`module m { "}"`, 12}, {`module m { "import" a.f; }`, 12},
	} {
		f.wantRefused(t, c.src, api.ErrParse, at(1, c.col))
	}
}

// The source's end is told where a byte behind its last one would stand.
func TestPlaceOfTheEnd(t *testing.T) {
	for _, c := range []struct {
		src   string
		place api.Place
	}{
		{"", at(1, 1)}, {" ", at(1, 2)}, {"\n", at(2, 1)}, {"1 +", at(1, 4)}, {"1 + ", at(1, 5)}, {"1 +\n", at(2, 1)}, {"1\n+\n\n  ", at(4, 3)},
		{"1 + # and", at(1, 10)}, {"1 + # and\n", at(2, 1)}, {"# x", at(1, 4)}, {"(\t\r", at(1, 4)}, {"\n\n\"a\" ++ ", at(3, 8)},
	} {
		exprFace().wantRefused(t, c.src, api.ErrParse, c.place)
	}
	typeFace().wantRefused(t, "", api.ErrParse, at(1, 1))
	typeFace().wantRefused(t, "box\n ", api.ErrParse, at(2, 2))
	modulesFace().wantRefused(t, "module m {\n}\nmodule # n\n", api.ErrParse, at(4, 1))
	modulesFace().wantTaken(t, "\n# nothing\n")
}

// Chapter 1's faults stand ahead of all others, wherever they are.
func TestFaultsOfTokens(t *testing.T) {
	long := make([]byte, api.MaxSource+1)
	for i := range long {
		long[i] = '('
	}
	for _, f := range faces() {
		f.wantRefused(t, "1 $", api.ErrByte, at(1, 3))
		f.wantRefused(t, "} } 007", api.ErrNumber, at(1, 5))
		f.wantRefused(t, "} }\n \"a", api.ErrText, at(2, 2))
		f.wantRefused(t, "; a23456789012345678901234567890123", api.ErrName, at(1, 3))
		f.wantRefused(t, string(long), api.ErrLong, api.Place{})
	}
}

// R5: sources are left as they are and not kept; no list of an answer has room in common with another one.
func TestAnswersStandAlone(t *testing.T) {
	src := []byte("module m { import a.f : int; import a.g; let x = [1, 2, 3]; let y : ? = \"txt\"; } module n { let z = q; }        ")
	kept := slices.Clone(src)
	half := src[:len(src)-8]
	want, _, _ := parse.Modules(slices.Clone(half))
	got, e, _ := parse.Modules(half)
	if e != api.OK || !slices.Equal(src, kept) {
		t.Fatalf("R5: the source is %q, %d", src, e)
	}
	clear(src)
	if !slices.EqualFunc(got, want, sameModule) {
		t.Errorf("R5: the answer goes with the source: %v", got)
	}
	for i := range got {
		for j := range got[i].Defs {
			d := &got[i].Defs[j]
			spare := d.Tree[len(d.Tree):cap(d.Tree)]
			for k := range spare {
				spare[k] = api.Node{Kind: math.MaxInt8}
			}
		}
		imports, defs := got[i].Imports, got[i].Defs
		_ = append(imports, api.Import{From: "none"})
		_ = append(defs, api.Def{Name: "none"})
	}
	_ = append(got, api.Module{Name: "none"})
	again, _, _ := parse.Modules(kept)
	if !slices.EqualFunc(got, want, sameModule) || !slices.EqualFunc(again, want, sameModule) {
		t.Errorf("R5: lists of an answer share room: %v", got)
	}
}
