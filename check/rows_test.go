package check_test

import (
	"testing"

	"culprit/api"
)

func TestExamplesOfTheChapter(t *testing.T) {
	wantTypes(t, "x + 1", "x i", "i i i")
	wantTypes(t, "x + 1", "x ?", "i ? i")
	wantRefused(t, "x + 1", "x t", api.ErrType, 1)
	wantTypes(t, "fn (x : int) => x", "", ">i? i")
	wantTypes(t, "fn (x) : int => x", "", ">?i ?")
	wantTypes(t, "let f : int -> text = fn (x : int) : ? => 1 in f(2)", "", "t >i? i t >it i")
	wantTypes(t, "if true then [1] else []", "", "li b li i l?")
	wantRefused(t, "if 1 then 2 else 3", "", api.ErrType, 1)
	wantRefused(t, `if true then 1 else "a"`, "", api.ErrBranch, 3)
	wantRefused(t, "[(1 : ?), 2, true]", "", api.ErrBranch, 4)
	wantTypes(t, "f(1)", "f ?", "? ? i")
	wantRefused(t, "f(1)", "f >ti", api.ErrType, 2)
	wantRefused(t, "f(1)", "f i", api.ErrHead, 1)
	wantRefused(t, "f(1)", "", api.ErrUnbound, 1)
	wantTypes(t, "cons(1, x)", "x ?", "l? i ?")
	wantTypes(t, "cons(1, x)", "x l?", "l? i l?")
	wantRefused(t, "cons(1, x)", "x lt", api.ErrType, 1)
	wantTypes(t, "rec f (f : int) : int => f", "", ">ii i")
	wantRefused(t, "(1 : text)", "", api.ErrType, 0)
	wantTypes(t, "((1 : ?) : text)", "", "t ? i")
	wantTypes(t, "x := y", "x x? y i", "? x? i")
	wantTypes(t, "x := y", "x ? y i", "? ? i")
	wantRefused(t, "x := y", "x xt y i", api.ErrType, 2)
}

func TestLiteralsAndNames(t *testing.T) {
	wantTypes(t, "1", "", "i")
	wantTypes(t, `"1"`, "", "t")
	wantTypes(t, `""`, "x ?", "t")
	wantTypes(t, "true", "", "b")
	wantTypes(t, "false", "", "b")
	wantTypes(t, "x", "x ?", "?")
	wantTypes(t, "x", "x >i,tl?", ">i,tl?")
	wantTypes(t, "y", "x i y t z b", "t")
	wantTypes(t, "x", "x i y ? x t", "t")
	wantTypes(t, "x", "x t y ? x i", "i")
	wantTypes(t, "x", "x t x t x ?", "?")
	wantTypes(t, "(x, X)", "x i X t", ",it i t")
	wantRefused(t, "x", "", api.ErrUnbound, 0)
	wantRefused(t, "x", "y i X i xx i x1 i", api.ErrUnbound, 0)
	wantRefused(t, "(x, y)", "x i", api.ErrUnbound, 2)
}

func TestFn(t *testing.T) {
	wantTypes(t, "fn (x : int) : int => x", "", ">ii i")
	wantTypes(t, "fn (x : int) : text => y", "y t", ">it t")
	wantTypes(t, "fn (x) => x", "", ">?? ?")
	wantTypes(t, "fn (x : ?) : ? => 1", "", ">?? i")
	wantTypes(t, "fn (x : int -> ?) : [int] => []", "", ">>i?li l?")
	wantTypes(t, "fn (x) : [?] => [1]", "", ">?l? li i")
	wantRefused(t, "fn (x : text) : int => x", "", api.ErrType, 1)
	wantRefused(t, "fn (x) : int => true", "", api.ErrType, 1)
	wantRefused(t, "fn (x) : [int] => [true]", "", api.ErrType, 1)
	wantRefused(t, "(1, fn (x) : int -> int => fn (y : text) => y)", "", api.ErrType, 3)
}

func TestRec(t *testing.T) {
	wantTypes(t, "rec f (x : int) : text => f(x)", "", ">it t >it i")
	wantTypes(t, "rec f (x) => f(x)", "", ">?? ? >?? ?")
	wantTypes(t, "rec f (x : int) => f", "", ">i? >i?")
	wantTypes(t, "rec f (x) : int => f(true) + x", "", ">?i i i >?i b ?")
	wantTypes(t, "rec x (x : text) : int => size(x)", "", ">ti i t")
	wantRefused(t, "rec f (x : int) : int => f", "", api.ErrType, 1)
	wantRefused(t, "rec f (x : int) : int => f(true)", "", api.ErrType, 3)
	wantRefused(t, "rec f (f : int) : int => f(1)", "", api.ErrHead, 2)
	wantRefused(t, "rec f (x) : text => 1", "", api.ErrType, 1)
}

func TestLet(t *testing.T) {
	wantTypes(t, "let x : int = 1 in x", "", "i i i")
	wantTypes(t, "let x = 1 in x", "", "? i ?")
	wantTypes(t, "let x : ? = 1 in (x : text)", "", "t i t ?")
	wantTypes(t, "let x : [int] = [] in x", "", "li l? li")
	wantTypes(t, "let x : [?] = [1] in true", "", "b li i b")
	wantRefused(t, "let x : int = true in x", "", api.ErrType, 1)
	wantRefused(t, "let x : [int] = [true] in 1", "", api.ErrType, 1)
	// Its name stands in its second kid alone.
	wantRefused(t, "let x = x in 1", "", api.ErrUnbound, 1)
	wantTypes(t, "let x : text = x in x", "x ?", "t ? t")
	wantTypes(t, "let x = fn (y) => y in x(1)", "x i", "? >?? ? ? ? i")
}

func TestNamesEndWithTheirKid(t *testing.T) {
	wantTypes(t, "(fn (x : int) => x, x)", "x t", ",>i?t >i? i t")
	wantTypes(t, "(rec f (x : int) : int => x, (f, x))", "x t f b", ",>ii,bt >ii i ,bt b t")
	wantTypes(t, "((let x : int = 1 in x), x)", "x t", ",it i i i t")
	wantRefused(t, "(fn (x) => x, x)", "", api.ErrUnbound, 3)
	wantRefused(t, "(rec f (x) => f, f)", "", api.ErrUnbound, 3)
	wantRefused(t, "((let x = 1 in x), x)", "", api.ErrUnbound, 4)
	wantTypes(t, "fn (x : int) => fn (x : text) => x", "", ">i? >t? t")
	wantTypes(t, "fn (x : int) => (fn (x : text) => x, x)", "", ">i? ,>t?i >t? t i")
	wantTypes(t, "let x : int = 1 in let y : text = \"\" in (x, y)", "", ",it i ,it t ,it i t")
}

func TestCall(t *testing.T) {
	wantTypes(t, "f(1)", "f >ib", "b >ib i")
	wantTypes(t, "f(x)", "f >ib x ?", "b >ib ?")
	wantTypes(t, "f([])", "f >lil?", "l? >lil? l?")
	wantTypes(t, "f(1)", "f >??", "? >?? i")
	wantTypes(t, "f(f)", "f ?", "? ? ?")
	wantTypes(t, "(fn (x) => 1)(x)", "x t", "? >?? i t")
	for _, other := range []string{"i", "b", "t", ",??", "l?", "x?"} {
		wantRefused(t, "f(1)", "f "+other, api.ErrHead, 1)
	}
	wantRefused(t, "f(true)", "f >ii", api.ErrType, 2)
	wantRefused(t, "f(1)(2)", "f >ii", api.ErrHead, 1)
	wantRefused(t, "f(g)", "f >>iii g >?t", api.ErrType, 2)
}

func TestIf(t *testing.T) {
	wantTypes(t, "if true then 1 else 2", "", "i b i i")
	wantTypes(t, "if x then 1 else x", "x ?", "i ? i ?")
	wantTypes(t, "if x then x else true", "x ?", "b ? ? b")
	wantTypes(t, "if true then x else x", "x ?", "? b ? ?")
	wantTypes(t, "if true then x else y", "x >i? y >?b", ">ib b >i? >?b")
	for _, other := range []string{"i", "t", ">??", ",??", "l?", "x?"} {
		wantRefused(t, "if x then 1 else 2", "x "+other, api.ErrType, 1)
	}
	wantRefused(t, "if true then x else y", "x >i? y >b?", api.ErrBranch, 3)
	wantRefused(t, "if true then (1, 2) else 3", "", api.ErrBranch, 5)
}

func TestOperations(t *testing.T) {
	for _, op := range []struct{ src, asked, given string }{
		{"x + y", "i", "i"}, {"x - y", "i", "i"}, {"x * y", "i", "i"}, {"x == y", "i", "b"}, {"x < y", "i", "b"}, {"x ++ y", "t", "t"},
	} {
		wantTypes(t, op.src, "x "+op.asked+" y "+op.asked, op.given+" "+op.asked+" "+op.asked)
		wantTypes(t, op.src, "x ? y "+op.asked, op.given+" ? "+op.asked)
		wantTypes(t, op.src, "x "+op.asked+" y ?", op.given+" "+op.asked+" ?")
		wantTypes(t, op.src, "x ? y ?", op.given+" ? ?")
		for _, other := range []string{"i", "b", "t", ">??", ",??", "l?", "x?"} {
			if other == op.asked {
				continue
			}
			wantRefused(t, op.src, "x "+other+" y "+op.asked, api.ErrType, 1)
			wantRefused(t, op.src, "x ? y "+other, api.ErrType, 2)
			wantRefused(t, op.src, "x "+other+" y "+other, api.ErrType, 1)
		}
	}
	for _, op := range []struct{ src, asked, given string }{{"-x", "i", "i"}, {"size(x)", "t", "i"}} {
		wantTypes(t, op.src, "x "+op.asked, op.given+" "+op.asked)
		wantTypes(t, op.src, "x ?", op.given+" ?")
		for _, other := range []string{"i", "b", "t", ">??", ",??", "l?", "x?"} {
			if other != op.asked {
				wantRefused(t, op.src, "x "+other, api.ErrType, 1)
			}
		}
	}
}

func TestPairs(t *testing.T) {
	wantTypes(t, `(1, "a")`, "", ",it i t")
	wantTypes(t, "(x, (x, 1))", "x ?", ",?,?i ? ,?i ? i")
	wantTypes(t, "first(x)", "x ,it", "i ,it")
	wantTypes(t, "second(x)", "x ,it", "t ,it")
	wantTypes(t, "first(x)", "x ?", "? ?")
	wantTypes(t, "second(x)", "x ?", "? ?")
	for _, other := range []string{"i", "b", "t", ">??", "l?", "x?"} {
		wantRefused(t, "first(x)", "x "+other, api.ErrHead, 1)
		wantRefused(t, "second(x)", "x "+other, api.ErrHead, 1)
	}
}

func TestLists(t *testing.T) {
	wantTypes(t, "[]", "", "l?")
	wantTypes(t, "[1]", "", "li i")
	wantTypes(t, "[x]", "x ?", "l? ?")
	wantTypes(t, "[x, 1]", "x ?", "li ? i")
	wantTypes(t, "[1, x, 2]", "x ?", "li i ? i")
	wantTypes(t, "[x, y, z]", "x ? y >i? z >?b", "l>ib ? >i? >?b")
	wantTypes(t, "[[], [1]]", "", "lli l? li i")
	wantRefused(t, "[1, true]", "", api.ErrBranch, 2)
	wantRefused(t, "[1, x, true]", "x ?", api.ErrBranch, 3)
	wantRefused(t, "[(x, 1), (true, x), (2, 2)]", "x ?", api.ErrBranch, 7)
	wantRefused(t, "[1, true, \"a\"]", "", api.ErrBranch, 2)
	wantTypes(t, "head(x)", "x lt", "t lt")
	wantTypes(t, "tail(x)", "x lt", "lt lt")
	wantTypes(t, "empty(x)", "x lt", "b lt")
	wantTypes(t, "head(x)", "x ?", "? ?")
	wantTypes(t, "tail(x)", "x ?", "l? ?")
	wantTypes(t, "empty(x)", "x ?", "b ?")
	for _, other := range []string{"i", "b", "t", ">??", ",??", "x?"} {
		wantRefused(t, "head(x)", "x "+other, api.ErrHead, 1)
		wantRefused(t, "tail(x)", "x "+other, api.ErrHead, 1)
		wantRefused(t, "empty(x)", "x "+other, api.ErrHead, 1)
		wantRefused(t, "cons(1, x)", "x "+other, api.ErrHead, 2)
	}
	wantTypes(t, "cons(1, x)", "x li", "li i li")
	wantTypes(t, "cons(y, x)", "x li y ?", "li ? li")
	wantTypes(t, "cons(y, x)", "x l>i? y >?b", "l>i? >?b l>i?")
	wantRefused(t, "cons(y, x)", "x l>i? y >bb", api.ErrType, 1)
}

func TestBoxes(t *testing.T) {
	wantTypes(t, "box(1)", "", "xi i")
	wantTypes(t, "box(box(x))", "x ?", "xx? x? ?")
	wantTypes(t, "!x", "x xt", "t xt")
	wantTypes(t, "!x", "x ?", "? ?")
	wantTypes(t, "x := 1", "x xi", "i xi i")
	wantTypes(t, "x := y", "x x>i? y >?b", ">i? x>i? >?b")
	wantTypes(t, "x := y", "x xi y ?", "i xi ?")
	for _, other := range []string{"i", "b", "t", ">??", ",??", "l?"} {
		wantRefused(t, "!x", "x "+other, api.ErrHead, 1)
		wantRefused(t, "x := 1", "x "+other, api.ErrHead, 1)
	}
	wantRefused(t, "x := y", "x x>i? y >b?", api.ErrType, 2)
}

func TestAs(t *testing.T) {
	wantTypes(t, "(1 : int)", "", "i i")
	wantTypes(t, "(1 : ?)", "", "? i")
	wantTypes(t, "(x : int -> bool)", "x >i?", ">ib >i?")
	wantTypes(t, "([] : [int])", "", "li l?")
	wantRefused(t, "(1 : bool)", "", api.ErrType, 0)
	wantRefused(t, "(2, (x : [?]))", "x x?", api.ErrType, 2)
	wantRefused(t, "((1 : text) : ?)", "", api.ErrType, 1)
}

// Of several faults in one tree: kids ahead of the node, from the left, each whole; then what is asked, in its order.
func TestOrderOfErrors(t *testing.T) {
	wantRefused(t, "(true + 1) + q", "", api.ErrType, 2)
	wantRefused(t, "q + (true + 1)", "", api.ErrUnbound, 1)
	wantRefused(t, "true + q", "", api.ErrUnbound, 2)
	wantRefused(t, "true + \"\"", "", api.ErrType, 1)
	wantRefused(t, "let y : int = true in q", "", api.ErrUnbound, 2)
	wantRefused(t, "let y : int = q in r", "", api.ErrUnbound, 1)
	wantRefused(t, "let y : int = true in 1 + true", "", api.ErrType, 4)
	wantRefused(t, "fn (x) : int => (true, 1 + true)", "", api.ErrType, 5)
	wantRefused(t, "1(q)", "", api.ErrUnbound, 2)
	wantRefused(t, "1(1 + true)", "", api.ErrType, 4)
	wantRefused(t, "1(true)", "", api.ErrHead, 1)
	wantRefused(t, "if 1 then 2 else q", "", api.ErrUnbound, 3)
	wantRefused(t, "if 1 then 2 else true", "", api.ErrType, 1)
	wantRefused(t, "if 1 then 2 + true else 3 + true", "", api.ErrType, 4)
	wantRefused(t, "[1, true, q]", "", api.ErrUnbound, 3)
	wantRefused(t, "[1, true, head(1)]", "", api.ErrHead, 4)
	wantRefused(t, "cons(q, r)", "", api.ErrUnbound, 1)
	wantRefused(t, "cons(1 + true, r)", "", api.ErrType, 3)
	wantRefused(t, "cons(1, head(1))", "", api.ErrHead, 3)
	wantRefused(t, "cons(1, 2)", "", api.ErrHead, 2)
	wantRefused(t, "1 := q", "", api.ErrUnbound, 2)
	wantRefused(t, "1 := 2", "", api.ErrHead, 1)
	wantRefused(t, "((1 : text), q)", "", api.ErrType, 1)
	wantRefused(t, "(head(1) : text)", "", api.ErrHead, 2)
}
