package insert_test

import (
	"testing"

	"culprit/api"
)

func TestExamplesOfTheChapter(t *testing.T) {
	wantTerm(t, "x + 1", "x ?", "Add [? i 1] Var0 Num1", "i", "8@1")
	wantTerm(t, "f(1)", "f ?", "Call [? >?? 1] Var0 [i ? 2] Num1", "?", "3@1 4@2")
	wantTerm(t, "(fn (x) => x + 1)(true)", "", "Call Fn(?,?) [i ? 2] Add [? i 1] Var0 Num1 [b ? 3] Truth1", "?", "8@3 1@2 4@5")
	wantTerm(t, "if x then 1 else y", "x ? y ?", "If [? b 1] Var1 Num1 [? i 2] Var0", "i", "5@1 7@3")
	wantTerm(t, "((1 : ?) : text)", "", "[? t 2] [i ? 1] Num1", "t", "16@1 16@0")
	wantTerm(t, "cons(1, x)", "x ?", "Cons [i ? 2] Num1 [? l? 1] Var0", "l?", "11@2 14@1")
	wantTerm(t, "rec f (n : int) : int => f(n)", "", "Rec(i,i) Call Var1 Var0", ">ii", "")
	wantTerm(t, "let x = 1 in x", "", "Let(?) [i ? 1] Num1 Var0", "?", "2@1")
}

func TestWhatIsNeverCast(t *testing.T) {
	wantTerm(t, "7", "", "Num7", "i", "")
	wantTerm(t, `"ab"`, "", "Strab", "t", "")
	wantTerm(t, `""`, "", "Str", "t", "")
	wantTerm(t, "true", "", "Truth1", "b", "")
	wantTerm(t, "false", "", "Truth0", "b", "")
	wantTerm(t, "x", "x ?", "Var0", "?", "")
	wantTerm(t, "x", "x >i?", "Var0", ">i?", "")
	wantTerm(t, "(x, 1)", "x ?", "Pair Var0 Num1", ",?i", "")
	wantTerm(t, "(1, x)", "x ?", "Pair Num1 Var0", ",i?", "")
	wantTerm(t, "box(x)", "x ?", "Box Var0", "x?", "")
	wantTerm(t, "box(1)", "", "Box Num1", "xi", "")
}

// Rule 1: the body to the result's annotation.
func TestBodies(t *testing.T) {
	wantTerm(t, "fn (x : int) : int => x", "", "Fn(i,i) Var0", ">ii", "")
	wantTerm(t, "fn (x : int) : ? => x", "", "Fn(i,?) [i ? 1] Var0", ">i?", "1@1")
	wantTerm(t, "fn (x : int) => x", "", "Fn(i,?) [i ? 1] Var0", ">i?", "1@1")
	wantTerm(t, "fn (x) : int => x", "", "Fn(?,i) [? i 1] Var0", ">?i", "1@1")
	wantTerm(t, "fn (x) => x", "", "Fn(?,?) Var0", ">??", "")
	wantTerm(t, "fn (x : ?) : ? => x", "", "Fn(?,?) Var0", ">??", "")
	wantTerm(t, "fn (x) : [int] => []", "", "Fn(?,li) [l? li 1] List0(?)", ">?li", "1@1")
	wantTerm(t, "fn (x) : int -> ? => y", "y >?b", "Fn(?,>i?) [>?b >i? 1] Var1", ">?>i?", "1@1")
	wantTerm(t, "rec f (x : int) : int => x", "", "Rec(i,i) Var0", ">ii", "")
	wantTerm(t, "rec f (x : int) => x", "", "Rec(i,?) [i ? 1] Var0", ">i?", "1@1")
	wantTerm(t, "rec f (x) : text => x", "", "Rec(?,t) [? t 1] Var0", ">?t", "1@1")
	wantTerm(t, "rec f (x) => x", "", "Rec(?,?) Var0", ">??", "")
	wantTerm(t, "rec f (x) => f", "", "Rec(?,?) [>?? ? 1] Var1", ">??", "1@1")
	wantTerm(t, "rec f (x : int) : ? => f(x)", "", "Rec(i,?) Call Var1 Var0", ">i?", "")
}

// Rule 2: what is bound to the binder's annotation. The second kid is cast to nothing.
func TestLets(t *testing.T) {
	wantTerm(t, "let x : int = 1 in x", "", "Let(i) Num1 Var0", "i", "")
	wantTerm(t, "let x : ? = 1 in x", "", "Let(?) [i ? 1] Num1 Var0", "?", "2@1")
	wantTerm(t, "let x : int = y in x", "y ?", "Let(i) [? i 1] Var0 Var0", "i", "2@1")
	wantTerm(t, "let x = y in x", "y ?", "Let(?) Var0 Var0", "?", "")
	wantTerm(t, "let x : [int] = [] in 1", "", "Let(li) [l? li 1] List0(?) Num1", "i", "2@1")
	wantTerm(t, "let x : ? -> ? = fn (y : int) : int => y in x", "", "Let(>??) [>ii >?? 1] Fn(i,i) Var0 Var0", ">??", "2@1")
}

// Rules 3 and 4: what is called, if nothing is known of it; the argument to what it takes.
func TestCalls(t *testing.T) {
	wantTerm(t, "f(1)", "f >ib", "Call Var0 Num1", "b", "")
	wantTerm(t, "f(1)", "f >?b", "Call Var0 [i ? 1] Num1", "b", "4@2")
	wantTerm(t, "f(x)", "f >ib x ?", "Call Var1 [? i 1] Var0", "b", "4@2")
	wantTerm(t, "f(x)", "f >?? x ?", "Call Var1 Var0", "?", "")
	wantTerm(t, "f(x)", "f ? x ?", "Call [? >?? 1] Var1 Var0", "?", "3@1")
	wantTerm(t, "f(x)", "f ? x l?", "Call [? >?? 1] Var1 [l? ? 2] Var0", "?", "3@1 4@2")
	wantTerm(t, "f(x)", "f >>i?t x >?b", "Call Var1 [>?b >i? 1] Var0", "t", "4@2")
	wantTerm(t, "f(1)(2)", "f ?", "Call [? >?? 3] Call [? >?? 1] Var0 [i ? 2] Num1 [i ? 4] Num2", "?", "3@2 4@3 3@1 4@4")
}

// Rules 5, 6 and 7.
func TestChoices(t *testing.T) {
	wantTerm(t, "if x then 1 else 2", "x b", "If Var0 Num1 Num2", "i", "")
	wantTerm(t, "if x then 1 else 2", "x ?", "If [? b 1] Var0 Num1 Num2", "i", "5@1")
	wantTerm(t, "if x then y else 2", "x b y ?", "If Var1 [? i 1] Var0 Num2", "i", "6@2")
	wantTerm(t, "if x then 2 else y", "x b y ?", "If Var1 Num2 [? i 1] Var0", "i", "7@3")
	wantTerm(t, "if x then y else y", "x b y ?", "If Var1 Var0 Var0", "?", "")
	wantTerm(t, "if x then y else z", "x ? y >i? z >?b", "If [? b 1] Var2 [>i? >ib 2] Var1 [>?b >ib 3] Var0", ">ib", "5@1 6@2 7@3")
	wantTerm(t, "if true then [1] else []", "", "If Truth1 List1(i) Num1 [l? li 1] List0(?)", "li", "7@4")
}

// Rules 8 and 9: each kid, from the left.
func TestOperations(t *testing.T) {
	for kind, op := range map[string]struct{ mark, asked, given, rule string }{
		"Add":  {"+", "i", "i", "8"},
		"Sub":  {"-", "i", "i", "8"},
		"Mul":  {"*", "i", "i", "8"},
		"Eq":   {"==", "i", "b", "8"},
		"Less": {"<", "i", "b", "8"},
		"Join": {"++", "t", "t", "9"},
	} {
		src, to := "x "+op.mark+" y", op.asked
		wantTerm(t, src, "x "+to+" y "+to, kind+" Var1 Var0", op.given, "")
		wantTerm(t, src, "x ? y "+to, kind+" [? "+to+" 1] Var1 Var0", op.given, op.rule+"@1")
		wantTerm(t, src, "x "+to+" y ?", kind+" Var1 [? "+to+" 1] Var0", op.given, op.rule+"@2")
		wantTerm(t, src, "x ? y ?", kind+" [? "+to+" 1] Var1 [? "+to+" 2] Var0", op.given, op.rule+"@1 "+op.rule+"@2")
	}
	wantTerm(t, "-x", "x i", "Neg Var0", "i", "")
	wantTerm(t, "-x", "x ?", "Neg [? i 1] Var0", "i", "8@1")
	wantTerm(t, "size(x)", "x t", "Size Var0", "i", "")
	wantTerm(t, "size(x)", "x ?", "Size [? t 1] Var0", "i", "9@1")
}

// Rules 10, 11 and 12: what is taken apart, if nothing is known of it; of whatever has the head nothing is cast.
func TestTakenApart(t *testing.T) {
	for _, c := range []struct{ src, kind, of, given, whole, rule string }{
		{"first(x)", "First", ",it", "i", ",??", "10"},
		{"second(x)", "Second", ",it", "t", ",??", "10"},
		{"head(x)", "Head", "li", "i", "l?", "11"},
		{"tail(x)", "Tail", "li", "li", "l?", "11"},
		{"empty(x)", "Empty", "li", "b", "l?", "11"},
		{"!x", "Get", "xi", "i", "x?", "12"},
	} {
		unknown := map[string]string{"Tail": "l?", "Empty": "b"}[c.kind]
		if unknown == "" {
			unknown = "?"
		}
		wantTerm(t, c.src, "x "+c.of, c.kind+" Var0", c.given, "")
		wantTerm(t, c.src, "x "+c.whole, c.kind+" Var0", unknown, "")
		wantTerm(t, c.src, "x ?", c.kind+" [? "+c.whole+" 1] Var0", unknown, c.rule+"@1")
	}
}

// Rule 13: each element to the meet.
func TestLists(t *testing.T) {
	wantTerm(t, "[]", "", "List0(?)", "l?", "")
	wantTerm(t, "[1]", "", "List1(i) Num1", "li", "")
	wantTerm(t, "[x]", "x ?", "List1(?) Var0", "l?", "")
	wantTerm(t, "[x, x]", "x ?", "List2(?) Var0 Var0", "l?", "")
	wantTerm(t, "[1, x, 2]", "x ?", "List3(i) Num1 [? i 1] Var0 Num2", "li", "13@2")
	wantTerm(t, "[x, 1, x]", "x ?", "List3(i) [? i 1] Var0 Num1 [? i 2] Var0", "li", "13@1 13@3")
	wantTerm(t, "[x, y, z]", "x ? y >i? z >?b", "List3(>ib) [? >ib 1] Var2 [>i? >ib 2] Var1 [>?b >ib 3] Var0", "l>ib", "13@1 13@2 13@3")
	wantTerm(t, "[[], [1]]", "", "List2(li) [l? li 1] List0(?) List1(i) Num1", "lli", "13@1")
	wantTerm(t, "[[], []]", "", "List2(l?) List0(?) List0(?)", "ll?", "")
	wantTerm(t, "[x, 1, (2 : ?)]", "x ?", "List3(i) [? i 2] Var0 Num1 [? i 3] [i ? 1] Num2", "li", "16@3 13@1 13@3")
}

// Rules 11 and 14: the cast of the list is laid ahead of that of what is put in front of it.
func TestCons(t *testing.T) {
	wantTerm(t, "cons(1, x)", "x li", "Cons Num1 Var0", "li", "")
	wantTerm(t, "cons(1, x)", "x l?", "Cons [i ? 1] Num1 Var0", "l?", "14@1")
	wantTerm(t, "cons(y, x)", "x li y ?", "Cons [? i 1] Var0 Var1", "li", "14@1")
	wantTerm(t, "cons(y, x)", "x ? y ?", "Cons Var0 [? l? 1] Var1", "l?", "11@2")
	wantTerm(t, "cons(y, x)", "x l? y ?", "Cons Var0 Var1", "l?", "")
	wantTerm(t, "cons(y, x)", "x l>i? y >?b", "Cons [>?b >i? 1] Var0 Var1", "l>i?", "14@1")
}

// Rules 12 and 15: the cast of the box is laid ahead of that of what is set.
func TestSet(t *testing.T) {
	wantTerm(t, "x := 1", "x xi", "Set Var0 Num1", "i", "")
	wantTerm(t, "x := 1", "x x?", "Set Var0 [i ? 1] Num1", "?", "15@2")
	wantTerm(t, "x := y", "x xi y ?", "Set Var1 [? i 1] Var0", "i", "15@2")
	wantTerm(t, "x := 1", "x ?", "Set [? x? 1] Var0 [i ? 2] Num1", "?", "12@1 15@2")
	wantTerm(t, "x := y", "x ? y ?", "Set [? x? 1] Var1 Var0", "?", "12@1")
	wantTerm(t, "x := y", "x x>i? y >?b", "Set Var1 [>?b >i? 1] Var0", ">i?", "15@2")
}

// Rule 16: the kid to what is written; the As itself is no node of the term.
func TestAs(t *testing.T) {
	wantTerm(t, "(1 : int)", "", "Num1", "i", "")
	wantTerm(t, "(1 : ?)", "", "[i ? 1] Num1", "?", "16@0")
	wantTerm(t, "(x : int)", "x ?", "[? i 1] Var0", "i", "16@0")
	wantTerm(t, "(x : ?)", "x ?", "Var0", "?", "")
	wantTerm(t, "(((1 : int) : int) : int)", "", "Num1", "i", "")
	wantTerm(t, "((((1 : int) : ?) : ?) : bool)", "", "[? b 2] [i ? 1] Num1", "b", "16@2 16@0")
	wantTerm(t, "(x : int -> bool)", "x >i?", "[>i? >ib 1] Var0", ">ib", "16@0")
	wantTerm(t, "([] : [int])", "", "[l? li 1] List0(?)", "li", "16@0")
	wantTerm(t, "(x + 1 : ?)", "x ?", "[i ? 2] Add [? i 1] Var0 Num1", "?", "8@2 16@0")
	// An As that is cast is the kid that is cast: the cast has its place, the term below has none of it.
	wantTerm(t, "(1 : ?) + 2", "", "Add [? i 2] [i ? 1] Num1 Num2", "i", "16@1 8@1")
	wantTerm(t, "(1 : ?) + (2 : int)", "", "Add [? i 2] [i ? 1] Num1 Num2", "i", "16@1 8@1")
	wantTerm(t, "(x : int) + 2", "x ?", "Add [? i 1] Var0 Num2", "i", "16@1")
	wantTerm(t, "fn (x) : int => (true : ?)", "", "Fn(?,i) [? i 2] [b ? 1] Truth1", ">?i", "16@1 1@1")
	wantTerm(t, "(1 : ?)(2)", "", "Call [? >?? 2] [i ? 1] Num1 [i ? 3] Num2", "?", "16@1 3@1 4@3")
}

// Absent annotations are ?, and are just as if they were written.
func TestAbsentAnnotations(t *testing.T) {
	for _, pair := range [][2]string{
		{"fn (x) => 1", "fn (x : ?) : ? => 1"},
		{"fn (x : int) => 1", "fn (x : int) : ? => 1"},
		{"rec f (x) => f(x) + 1", "rec f (x : ?) : ? => f(x) + 1"},
		{"let x = 1 in x + x", "let x : ? = 1 in x + x"},
		{"let x = fn (y) => y in x(1)", "let x : ? = fn (y : ?) : ? => y in x(1)"},
	} {
		absent, unknown := given("m", source(t, pair[0]), nil), given("m", source(t, pair[1]), nil)
		if absent.e != api.OK || !absent.equals(unknown) {
			t.Errorf("P11.1: %q: %v; %q: %v", pair[0], absent, pair[1], unknown)
		}
	}
}
