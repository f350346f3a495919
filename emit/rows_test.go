package emit_test

import (
	"math"
	"regexp"
	"strconv"
	"strings"
	"testing"

	"culprit/api"
	"culprit/sample"
)

// The document's examples, whole.
func TestExamples(t *testing.T) {
	for text, lines := range map[string][]string{
		"Num 7":                      {"num 7", `fn : "" "i"`, " push 0 0", " ret 0 0"},
		"Fn i i (Add(Var 0, Num 7))": {"num 7", `fn : "" ">ii"`, " fn 1 0", " ret 0 0", `fn : "i" "i"`, " local 0 0", " push 0 0", " op 10 0", " ret 0 0"},
		"Rec i i (Call(Var 1, Var 0))": {`fn : "" ">ii"`, " rec 1 0", " ret 0 0",
			`fn ">ii" : "i" "i"`, " local 1 0", " local 0 0", " tail 0 0"},
		"Cast i ? 5 (Num 7)": {"num 7", `cast "i" "?" 2.0.1.105.0.0.0`, `fn : "" "?"`, " push 0 0", " cast 0 0", " ret 0 0"},
		"Fn >i? i (Cast ? i 3 (Call(Var 0, Num 1)))": {"num 1", `cast "?" "i" 2.3.0.105.0.0.0`, `fn : "" ">>i?i"`, " fn 1 0", " ret 0 0",
			`fn : ">i?" "i"`, " local 0 0", " push 0 0", " pend 0 0", " tail 0 0"},
		"If(Truth 1, Num 1, Num 1)": {"num 1", `fn : "" "i"`, " truth 1 0", " unless 4 0", " push 0 0", " ret 0 0", " push 0 0", " ret 0 0"},
		"Add(If(Truth 0, Num 1, Num 2), Num 3)": {"num 1", "num 2", "num 3", `fn : "" "i"`,
			" truth 0 0", " unless 4 0", " push 0 0", " jump 5 0", " push 1 0", " push 2 0", " op 10 0", " ret 0 0"},
	} {
		wantLines(t, sample.Term(text), lines...)
	}
	wantRefused(t, sample.Term("Add(Num 1, Truth 1)"), api.ErrType, 0)
}

// P19.2: each kind of node, in the tail of the program and as a kid: a Pair with it is what its Pair stands for.
func TestEachKind(t *testing.T) {
	for _, c := range []struct{ text, laid string }{
		{"Num 5", "push"},
		{"Str a", "text"},
		{"Truth 0", "truth"},
		{"Truth 1", "truth 1"},
		{"Add(Num 5, Num 6)", "push, push 1, op 10"},
		{"Sub(Num 5, Num 6)", "push, push 1, op 11"},
		{"Mul(Num 5, Num 6)", "push, push 1, op 12"},
		{"Join(Str a, Str b)", "text, text 1, op 13"},
		{"Eq(Num 5, Num 6)", "push, push 1, op 14"},
		{"Less(Num 5, Num 6)", "push, push 1, op 15"},
		{"Neg(Num 5)", "push, op 16"},
		{"Size(Str a)", "text, op 17"},
		{"Pair(Num 5, Str a)", "push, text, pair"},
		{"First(Pair(Num 5, Str a))", "push, text, pair, part 19"},
		{"Second(Pair(Num 5, Str a))", "push, text, pair, part 20"},
		{"List i ()", "list"},
		{"List i (Num 5)", "push, list 1"},
		{"List i (Num 5, Num 6, Num 5)", "push, push 1, push, list 3"},
		{"Head(List i ())", "list, part 22"},
		{"Tail(List i ())", "list, part 23"},
		{"Empty(List i ())", "list, part 24"},
		{"Cons(Num 5, List i ())", "push, list, cons"},
		{"Box(Num 5)", "push, box"},
		{"Get(Box(Num 5))", "push, box, get"},
		{"Set(Box(Num 5), Num 6)", "push, box, push 1, set"},
		{"Cast i ? 3 (Num 5)", "push, cast"},
	} {
		wantBodies(t, c.text, c.laid+", ret")
		wantBodies(t, "Pair(Truth 0, "+c.text+")", "truth, "+c.laid+", pair, ret")
		wantBodies(t, "Box("+c.text+")", c.laid+", box, ret")
		wantBodies(t, "Fn b b (Second(Pair("+c.text+", Var 0)))", "fn 1, ret / "+c.laid+", local, pair, part 20, ret")
	}
}

// shifted answers instructions that lie so many places farther on.
func shifted(text string, by int) string {
	return regexp.MustCompile(`(unless|jump) \d+`).ReplaceAllStringFunc(text, func(found string) string {
		words := strings.Fields(found)
		place, _ := strconv.Atoi(words[1])
		return words[0] + " " + strconv.Itoa(place+by)
	})
}

// P19.3: those that are laid otherwise in the tail, in a function that is handed another one.
func TestKindsOfTheTail(t *testing.T) {
	for _, c := range []struct{ text, of, kid, tail string }{
		{"Call(Var 0, Num 5)", "i", "local, push, call", "local, push, tail"},
		{"Let(Num 5, Var 0)", "i", "push, let, local, end", "push, let, local, ret"},
		{"Let(Num 5, Call(Var 1, Var 0))", "i", "push, let, local 1, local, call, end", "push, let, local 1, local, tail"},
		{"If(Truth 1, Num 5, Num 6)", "i", "truth 1, unless 4, push, jump 5, push 1", "truth 1, unless 4, push, ret, push 1, ret"},
		{"If(Truth 1, Call(Var 0, Num 5), Num 6)", "i", "truth 1, unless 6, local, push, call, jump 7, push 1", "truth 1, unless 5, local, push, tail, push 1, ret"},
		{"Cast i ? 3 (Num 5)", "?", "push, cast", "push, cast, ret"},
		{"Cast i ? 3 (Call(Var 0, Num 5))", "?", "local, push, call, cast", "local, push, pend, tail"},
		{"Cast i ? 3 (Let(Num 5, Var 0))", "?", "push, let, local, end, cast", "push, let, local, cast, ret"},
		{"Cast i ? 3 (If(Truth 1, Num 5, Num 6))", "?", "truth 1, unless 4, push, jump 5, push 1, cast", "truth 1, unless 5, push, cast, ret, push 1, cast, ret"},
	} {
		wantBodies(t, "Fn >ii "+c.of+" ("+c.text+")", "fn 1, ret / "+c.tail)
		wantBodies(t, "Fn >ii x"+c.of+" (Box("+c.text+"))", "fn 1, ret / "+c.kid+", box, ret")
		wantBodies(t, "Rec >ii "+c.of+" ("+c.text+")", "rec 1, ret / "+c.tail)
		// The program's own tail is one, too.
		wantBodies(t, "Let(Fn i i (Var 0), "+c.text+")", "fn 1, let, "+shifted(c.tail, 2)+" / local, ret")
	}
}

// Var: how far off its binder is, and nothing else.
func TestVariables(t *testing.T) {
	wantBodies(t, "Let(Num 1, Let(Str a, Let(Truth 1, Pair(Var 2, Pair(Var 0, Var 1)))))", "push, let, text, let, truth 1, let, local 2, local, local 1, pair, pair, ret")
	wantBodies(t, "Fn i >ii (Fn i i (Var 1))", "fn 1, ret / fn 2, ret / local 1, ret")
	wantBodies(t, "Fn i >ii (Rec i i (Var 2))", "fn 1, ret / rec 2, ret / local 2, ret")
	wantBodies(t, "Rec i i (Var 0)", "rec 1, ret / local, ret")
	wantBodies(t, "Rec i ? (Cast >i? ? 1 (Var 1))", "rec 1, ret / local 1, cast, ret")
	// What is bound in one kid is not bound behind it.
	wantBodies(t, "Let(Num 1, Pair(Let(Num 2, Var 1), Var 0))", "push, let, push 1, let, local 1, end, local, pair, ret")
	wantBodies(t, "Let(Let(Num 1, Var 0), Var 0)", "push, let, local, end, let, local, ret")
}

// Any number is a number.
func TestNumbers(t *testing.T) {
	for _, n := range []int64{0, -1, 1, math.MaxInt64, math.MinInt64} {
		c := good(t, sample.Num(n))
		if len(c.Nums) != 1 || c.Nums[0] != n {
			t.Errorf("P19.2: Num %d: %v", n, c.Nums)
		}
	}
}
