package emit_test

import (
	"slices"
	"strings"
	"testing"

	"culprit/api"
	"culprit/sample"
)

// heads writes the Env, Param and Result of each function.
func heads(c api.Code) string {
	var all []string
	for _, f := range c.Functions {
		all = append(all, strings.Join(f.Env, " ")+":"+f.Param+":"+f.Result)
	}
	return strings.Join(all, " / ")
}

func wantHeads(t *testing.T, text, want string) {
	t.Helper()
	if got := heads(good(t, sample.Term(text))); got != want {
		t.Errorf("P19.1: %s: %s; not %s", text, got, want)
	}
}

// The program's function: nothing, the empty text, the term's type.
func TestProgram(t *testing.T) {
	for _, c := range []struct{ text, of string }{
		{"Num 1", "i"}, {"Str a", "t"}, {"Truth 1", "b"}, {"Cast i ? 1 (Num 1)", "?"}, {"List lb ()", "llb"}, {"Box(Pair(Num 1, Str a))", "x,it"},
		{"Let(Num 1, Str a)", "t"}, {"If(Truth 1, Str a, Str b)", "t"}, {"Cast ? >?? 2 (Cast i ? 1 (Num 1))", ">??"},
	} {
		c1 := good(t, sample.Term(c.text))
		if f := c1.Functions[0]; len(c1.Functions) != 1 || len(f.Env) != 0 || f.Param != "" || f.Result != c.of {
			t.Errorf("P19.1: %s: %s", c.text, heads(c1))
		}
	}
}

// The row at a function, below each binder, with the types that they have.
func TestEnv(t *testing.T) {
	wantHeads(t, "Fn i b (Truth 1)", "::>ib / :i:b")
	wantHeads(t, "Rec i b (Truth 1)", "::>ib / >ib:i:b")
	wantHeads(t, "Fn t >ib (Fn i b (Truth 1))", "::>t>ib / :t:>ib / t:i:b")
	wantHeads(t, "Fn t >ib (Rec i b (Truth 1))", "::>t>ib / :t:>ib / >ib t:i:b")
	wantHeads(t, "Rec t >ib (Fn i b (Truth 1))", "::>t>ib / >t>ib:t:>ib / t >t>ib:i:b")
	wantHeads(t, "Rec t >ib (Rec i b (Truth 1))", "::>t>ib / >t>ib:t:>ib / >ib t >t>ib:i:b")
	// A Let binds in its second kid, not in its first one.
	wantHeads(t, "Let(Num 1, Fn t b (Truth 1))", "::>tb / i:t:b")
	wantHeads(t, "Let(Fn t b (Truth 1), Num 1)", "::i / :t:b")
	wantHeads(t, "Let(Fn t b (Truth 1), Fn i t (Str a))", "::>it / :t:b / >tb:i:t")
	wantHeads(t, "Neg(Let(Num 1, Second(Pair(Fn t b (Truth 1), Var 0))))", "::i / i:t:b")
	wantHeads(t, "Pair(Let(Num 1, Fn t b (Truth 1)), Fn ? i (Num 1))", "::,>tb>?i / i:t:b / :?:i")
	wantHeads(t, "Let(Num 1, Let(Str a, Pair(Let(Truth 1, Fn ? ? (Var 0)), Fn i i (Var 0))))", "::,>??>ii / b t i:?:? / t i:i:i")
	wantHeads(t, "Fn i >ii (Let(Str a, Fn i i (Var 2)))", "::>i>ii / :i:>ii / t i:i:i")
	// Behind a function's body its binders are gone.
	wantHeads(t, "Pair(Fn i i (Var 0), Fn t t (Var 0))", "::,>ii>tt / :i:i / :t:t")
	wantHeads(t, "Let(Num 1, Pair(Rec i i (Var 0), Fn t t (Var 0)))", "::,>ii>tt / >ii i:i:i / i:t:t")
	wantHeads(t, "Fn b ,>ii>tt (Pair(Rec i i (Let(Str a, Var 1)), Fn t t (Var 0)))", "::>b,>ii>tt / :b:,>ii>tt / >ii b:i:i / b:t:t")
	// In the tail, too, a Let is left behind its second kid.
	wantHeads(t, "Fn b >ii (If(Var 0, Let(Num 1, Let(Str a, Fn i i (Var 0))), Fn i i (Var 0)))", "::>b>ii / :b:>ii / t i b:i:i / b:i:i")
}

// The types of what Lets bind: of each kind of node that has one.
func TestTypesOfLets(t *testing.T) {
	for _, c := range []struct{ text, of string }{
		{"Num 1", "i"}, {"Str a", "t"}, {"Truth 1", "b"}, {"Var 0", ",it"}, {"Var 1", "l?"}, {"Var 2", "x>bi"},
		{"Fn i b (Truth 1)", ">ib"}, {"Rec ? li (List i ())", ">?li"},
		{"Call(Fn i b (Truth 1), Num 1)", "b"}, {"Call(Get(Var 2), Truth 1)", "i"}, {"Call(Fn >ib >bi (Fn b i (Num 1)), Fn i b (Truth 1))", ">bi"},
		{"Let(Str a, Var 0)", "t"}, {"Let(Str a, Var 1)", ",it"}, {"Let(Var 1, Let(Num 1, Var 1))", "l?"},
		{"If(Truth 1, Var 0, Var 0)", ",it"}, {"If(Empty(Var 1), Str a, Str b)", "t"},
		{"Add(Num 1, Num 2)", "i"}, {"Sub(Num 1, Num 2)", "i"}, {"Mul(Num 1, Num 2)", "i"}, {"Join(Str a, Str b)", "t"},
		{"Eq(Num 1, Num 2)", "b"}, {"Less(Num 1, Num 2)", "b"}, {"Neg(Num 1)", "i"}, {"Size(Str a)", "i"},
		{"Pair(Var 1, Var 0)", ",l?,it"}, {"Pair(Num 1, Fn i i (Var 0))", ",i>ii"}, {"First(Var 0)", "i"}, {"Second(Var 0)", "t"},
		{"First(Pair(Pair(Truth 1, Num 1), Str a))", ",bi"}, {"Second(Pair(Pair(Truth 1, Num 1), Str a))", "t"},
		{"List ? ()", "l?"}, {"List >i,bt ()", "l>i,bt"}, {"Head(Var 1)", "?"}, {"Tail(Var 1)", "l?"}, {"Empty(Var 1)", "b"}, {"Head(List ,il? ())", ",il?"},
		{"Cons(Num 1, List i ())", "li"}, {"Cons(Head(Var 1), Tail(Var 1))", "l?"},
		{"Box(Var 0)", "x,it"}, {"Get(Var 2)", ">bi"}, {"Get(Box(Box(Num 1)))", "xi"}, {"Set(Box(Var 0), Var 0)", ",it"}, {"Set(Box(Num 1), Num 2)", "i"},
		{"Cast i ? 1 (Num 1)", "?"}, {"Cast l? lb 1 (Var 1)", "lb"}, {"Cast ? >?? 1 (Head(Var 1))", ">??"},
	} {
		around := "Let(Box(Fn b i (Num 1)), Let(List ? (), Let(Pair(Num 1, Str a), "
		for _, inner := range []string{"Fn t t (Var 0)", "First(Pair(Fn t t (Var 0), Num 1))"} {
			code := good(t, sample.Term(around+"Let("+c.text+", "+inner+"))))"))
			f := code.Functions[len(code.Functions)-1]
			if want := []string{c.of, ",it", "l?", "x>bi"}; !slices.Equal(f.Env, want) {
				t.Errorf("P19.1: below a Let of %s the row %v; not %v", c.text, f.Env, want)
			}
		}
	}
}

// Functions are numbered as they are met, one in another, and beside each other, in the parts of every kind of node.
func TestNumbersOfFunctions(t *testing.T) {
	for _, text := range []string{
		"Pair(+, Pair(+, +))", "Let(+, Let(+, +))", "First(Pair(+, +))", "List i (Second(Pair(+, Num 1)), Second(Pair(+, Num 1)), Second(Pair(+, Num 1)))",
		"If(Second(Pair(+, Truth 1)), Second(Pair(+, Num 1)), Second(Pair(+, Num 2)))",
		"Neg(If(Second(Pair(+, Truth 1)), Second(Pair(+, Num 1)), Second(Pair(+, Num 2))))",
		"Neg(Second(Pair(+, Num 1)))", "Add(Second(Pair(+, Num 1)), Second(Pair(+, Num 1)))", "Less(Second(Pair(+, Num 1)), Second(Pair(+, Num 1)))",
		"Join(Second(Pair(+, Str a)), Second(Pair(+, Str b)))", "Size(Second(Pair(+, Str a)))",
		"Cons(Second(Pair(+, Num 1)), Second(Pair(+, List i ())))", "Head(Tail(Second(Pair(+, List i ()))))", "Empty(Second(Pair(+, List i ())))",
		"Set(Box(Second(Pair(+, Num 1))), Get(Box(Second(Pair(+, Num 1)))))", "Cast i ? 1 (Second(Pair(+, Num 1)))", "Pair(Cast i ? 1 (Second(Pair(+, Num 1))), +)",
		"Call(Second(Pair(+, Fn i i (Var 0))), Second(Pair(+, Num 1)))", "Neg(Call(Second(Pair(+, Fn i i (Var 0))), Second(Pair(+, Num 1))))",
		"Pair(Fn i i (Second(Pair(+, Var 0))), +)", "Pair(Rec i i (Second(Pair(+, Let(Second(Pair(+, Num 1)), Var 0)))), +)",
	} {
		// The marks are functions whose parameters tell which one each is: so many lists of numbers.
		n := strings.Count(text, "+")
		for i := range n {
			l := strings.Repeat("l", i+1) + "i"
			text = strings.Replace(text, "+", "Fn "+l+" "+l+" (Var 0)", 1)
		}
		met := 0
		for i, f := range good(t, sample.Term(text)).Functions {
			if f.Param != "" && f.Param[0] == 'l' {
				if met++; f.Param != strings.Repeat("l", met)+"i" {
					t.Errorf("P19.1: %s: the function %d is %s", text, i, f.Param)
				}
			}
		}
		if met != n {
			t.Errorf("P19.1: %s: %d of %d functions", text, met, n)
		}
	}
	// One in another is met behind it, ahead of what stands beside it.
	wantHeads(t, "Pair(Fn i >bi (Fn b i (Call(Fn t i (Num 1), Str a))), Fn ? ? (Var 0))", "::,>i>bi>?? / :i:>bi / i:b:i / b i:t:i / :?:?")
	wantBodies(t, "Pair(Fn i >bi (Fn b i (Call(Fn t i (Num 1), Str a))), Fn ? ? (Var 0))", "fn 1, fn 4, pair, ret / fn 2, ret / fn 3, text, tail / push, ret / local, ret")
	wantBodies(t, "If(Truth 1, Rec b i (Num 1), Rec b i (Num 2))", "truth 1, unless 4, rec 1, ret, rec 2, ret / push, ret / push 1, ret")
}
