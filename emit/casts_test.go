package emit_test

import (
	"reflect"
	"strconv"
	"strings"
	"testing"

	"culprit/api"
	"culprit/coerce"
	"culprit/sample"
)

// sameCo tells whether a coercion is that of a Cast.
func sameCo(co []api.Co, n api.Node) bool {
	want, e := coerce.Of(n.T, n.U, n.N)
	return e == api.OK && reflect.DeepEqual(co, want)
}

// What waits is cast from the innermost cast on, and pends from the outermost one on; the numbers are given out in that order.
func TestCastsThatWait(t *testing.T) {
	const two = "Cast ? b 7 (Cast i ? 6 "
	wantLines(t, sample.Term(two+"(Num 1))"), "num 1", `cast "i" "?" 2.0.1.105.0.0.0`, `cast "?" "b" 2.7.0.98.0.0.0`, `fn : "" "b"`,
		" push 0 0", " cast 0 0", " cast 1 0", " ret 0 0")
	wantLines(t, sample.Term("Fn >ii b ("+two+"(Call(Var 0, Num 1))))"), "num 1", `cast "?" "b" 2.7.0.98.0.0.0`, `cast "i" "?" 2.0.1.105.0.0.0`, `fn : "" ">>iib"`, " fn 1 0", " ret 0 0",
		`fn : ">ii" "b"`, " local 0 0", " push 0 0", " pend 0 0", " pend 1 0", " tail 0 0")
	// Not in the tail: as they stand.
	wantLines(t, sample.Term("Fn >ii xb (Box("+two+"(Call(Var 0, Num 1)))))"), "num 1", `cast "i" "?" 2.0.1.105.0.0.0`, `cast "?" "b" 2.7.0.98.0.0.0`, `fn : "" ">>iixb"`, " fn 1 0", " ret 0 0",
		`fn : ">ii" "xb"`, " local 0 0", " push 0 0", " call 0 0", " cast 0 0", " cast 1 0", " box 0 0", " ret 0 0")

	const three = "Cast ? t 9 (Cast b ? 8 (Cast i b 7 "
	wantRefused(t, sample.Term(three+"(Num 1)))"), api.ErrType, 2)
	wantBodies(t, "Cast ? t 9 (Cast ? ? 8 (Cast i ? 7 (Num 1)))", "push, cast, cast 1, cast 2, ret")
	wantBodies(t, "Fn >ii t (Cast ? t 9 (Cast ? ? 8 (Cast i ? 7 (Call(Var 0, Num 1)))))", "fn 1, ret / local, push, pend, pend 1, pend 2, tail")
	wantBodies(t, "Fn >ii t (Cast ? t 9 (Cast ? ? 8 (Cast i ? 7 (Call(Var 0, Neg(Num 1))))))", "fn 1, ret / local, push, op 16, pend, pend 1, pend 2, tail")
}

// Around each thing that ends in the tail.
func TestCastsAroundEachThing(t *testing.T) {
	for _, c := range []struct{ text, laid string }{
		{"Var 0", "local"},
		{"Add(Var 0, Num 1)", "local, push, op 10"},
		{"First(Pair(Var 0, Num 1))", "local, push, pair, part 19"},
		{"Head(List i (Var 0))", "local, list 1, part 22"},
		{"Get(Box(Var 0))", "local, box, get"},
		{"Set(Box(Var 0), Num 1)", "local, box, push, set"},
	} {
		wantBodies(t, "Fn i i ("+c.text+")", "fn 1, ret / "+c.laid+", ret")
		wantBodies(t, "Fn i ? (Cast i ? 1 ("+c.text+"))", "fn 1, ret / "+c.laid+", cast, ret")
		wantBodies(t, "Fn i b (Cast ? b 2 (Cast i ? 1 ("+c.text+")))", "fn 1, ret / "+c.laid+", cast, cast 1, ret")
		wantBodies(t, "Fn i b (Cast ? b 2 (Let(Num 1, Cast i ? 1 ("+c.text+"))))", "fn 1, ret / push, let, "+c.laid+", cast, cast 1, ret")
		wantBodies(t, "Fn i b (Cast ? b 2 (If(Truth 1, Cast i ? 1 ("+c.text+"), Cast i ? 3 (Num 1))))",
			"fn 1, ret / truth 1, unless "+strconv.Itoa(2+strings.Count(c.laid, ",")+4)+", "+c.laid+", cast, cast 1, ret, push, cast, cast 1, ret")
	}
}

// Through Lets and choices casts wait on; each arm has its own.
func TestCastsThroughLetsAndChoices(t *testing.T) {
	wantBodies(t, "Fn >ii ? (Cast i ? 1 (Let(Num 1, Call(Var 1, Var 0))))", "fn 1, ret / push, let, local 1, local, pend, tail")
	wantBodies(t, "Fn >ii ? (Cast i ? 1 (Let(Call(Var 0, Num 1), Call(Var 1, Var 0))))", "fn 1, ret / local, push, call, let, local 1, local, pend, tail")
	wantBodies(t, "Fn >ii ? (Cast i ? 1 (If(Truth 1, Call(Var 0, Num 1), Num 2)))", "fn 1, ret / truth 1, unless 6, local, push, pend, tail, push 1, cast, ret")
	// Two arms below one cast, each with more: what one arm adds the other one does not have.
	wantBodies(t, "Fn >ii b (Cast ? b 1 (If(Truth 1, Cast i ? 2 (Call(Var 0, Num 1)), Cast t ? 3 (Str a))))",
		"fn 1, ret / truth 1, unless 7, local, push, pend, pend 1, tail, text, cast 2, cast, ret")
	wantBodies(t, "Cast ? i 1 (Cast ? ? 2 (If(Truth 1, Cast i ? 3 (Num 1), If(Truth 0, Cast b ? 4 (Truth 1), Cast t ? 5 (Str a)))))",
		"truth 1, unless 7, push, cast, cast 1, cast 2, ret, truth, unless 14, truth 1, cast 3, cast 1, cast 2, ret, text, cast 4, cast 1, cast 2, ret")
	// Of three casts two arms share the outermost two, deeper ones have their own.
	wantBodies(t, "Fn b ? (Cast i ? 1 (Cast ? i 2 (Cast i ? 3 (If(Var 0, Cast ? i 4 (Cast b ? 5 (Truth 0)), Cast ? i 6 (Cast t ? 7 (Str a)))))))",
		"fn 1, ret / local, unless 9, truth, cast, cast 1, cast 2, cast 3, cast 2, ret, text, cast 4, cast 5, cast 2, cast 3, cast 2, ret")
}

// Casts wait for nothing but the tail: not in a condition, an operand, what a Let binds, a function's body.
func TestCastsThatDoNotWait(t *testing.T) {
	wantBodies(t, "Cast i ? 1 (If(Cast ? b 2 (Cast b ? 3 (Truth 1)), Num 1, Num 2))", "truth 1, cast, cast 1, unless 7, push, cast 2, ret, push 1, cast 2, ret")
	wantBodies(t, "Cast i ? 1 (Let(Cast b ? 2 (Truth 1), Num 1))", "truth 1, cast, let, push, cast 1, ret")
	wantBodies(t, "Cast i ? 1 (Neg(Cast ? i 2 (Cast b ? 3 (Truth 1))))", "truth 1, cast, cast 1, op 16, cast 2, ret")
	wantBodies(t, "Cast >ii ? 1 (Fn i i (Neg(Var 0)))", "fn 1, cast, ret / local, op 16, ret")
	wantBodies(t, "Fn >ii ? (Cast >ii ? 1 (Fn i i (Call(Var 1, Var 0))))", "fn 1, ret / fn 2, cast, ret / local 1, local, tail")
	wantBodies(t, "Fn >ii ? (Cast >ii ? 1 (Rec i i (Cast ? i 2 (Cast i ? 3 (Call(Var 1, Var 0))))))", "fn 1, ret / rec 2, cast 2, ret / local 1, local, pend, pend 1, tail")
	// A call's own kids are not in the tail.
	wantBodies(t, "Fn >ii ? (Cast i ? 1 (Call(Cast ? >ii 2 (Cast >ii ? 3 (Var 0)), Call(Var 0, Cast ? i 4 (Cast i ? 5 (Num 1))))))",
		"fn 1, ret / local, cast, cast 1, local, push, cast 2, cast 3, call, pend 2, tail")
}
