package emit_test

import "testing"

// Choices that are not in the tail: Unless leads to the third kid, Jump behind its end.
func TestJumps(t *testing.T) {
	wantBodies(t, "Neg(If(Truth 1, Num 1, Num 2))", "truth 1, unless 4, push, jump 5, push 1, op 16, ret")
	wantBodies(t, "Neg(If(Truth 1, Neg(Num 1), Neg(Neg(Num 2))))", "truth 1, unless 5, push, op 16, jump 8, push 1, op 16, op 16, op 16, ret")
	// A choice in each kid of another one.
	wantBodies(t, "Neg(If(If(Truth 1, Truth 0, Truth 1), Num 1, Num 2))", "truth 1, unless 4, truth, jump 5, truth 1, unless 8, push, jump 9, push 1, op 16, ret")
	wantBodies(t, "Neg(If(Truth 1, If(Truth 0, Num 1, Num 2), Num 3))", "truth 1, unless 8, truth, unless 6, push, jump 7, push 1, jump 9, push 2, op 16, ret")
	wantBodies(t, "Neg(If(Truth 1, Num 1, If(Truth 0, Num 2, Num 3)))", "truth 1, unless 4, push, jump 9, truth, unless 8, push 1, jump 9, push 2, op 16, ret")
	// Beside another one, in both operands, in a Let, in what is taken apart.
	wantBodies(t, "Add(If(Truth 1, Num 1, Num 2), If(Truth 0, Num 3, Num 4))", "truth 1, unless 4, push, jump 5, push 1, truth, unless 9, push 2, jump 10, push 3, op 10, ret")
	wantBodies(t, "Neg(Let(If(Truth 1, Num 1, Num 2), If(Truth 0, Var 0, Num 1)))", "truth 1, unless 4, push, jump 5, push 1, let, truth, unless 10, local, jump 11, push, end, op 16, ret")
	wantBodies(t, "Neg(If(Truth 1, Let(Num 1, Var 0), Num 1))", "truth 1, unless 7, push, let, local, end, jump 8, push, op 16, ret")
	wantBodies(t, "Head(If(Truth 1, List i (Num 1), List i ()))", "truth 1, unless 5, push, list 1, jump 6, list, part 22, ret")
	wantBodies(t, "Box(Cast i ? 1 (If(Truth 1, Num 1, Num 1)))", "truth 1, unless 4, push, jump 5, push, cast, box, ret")
	wantBodies(t, "Pair(Fn b i (If(Var 0, Num 1, Num 2)), Num 1)", "fn 1, push, pair, ret / local, unless 4, push, ret, push 1, ret")
	wantBodies(t, "Pair(Fn b xi (Box(If(Var 0, Num 1, Num 2))), Num 1)", "fn 1, push, pair, ret / local, unless 4, push, jump 5, push 1, box, ret")
}

// In the tail a choice has no jump: each arm ends by itself.
func TestChoicesOfTheTail(t *testing.T) {
	wantBodies(t, "If(Truth 1, Neg(Num 1), Num 2)", "truth 1, unless 5, push, op 16, ret, push 1, ret")
	wantBodies(t, "If(If(Truth 1, Truth 0, Truth 1), Num 1, Num 2)", "truth 1, unless 4, truth, jump 5, truth 1, unless 8, push, ret, push 1, ret")
	wantBodies(t, "If(Truth 1, If(Truth 0, Num 1, Num 2), Num 3)", "truth 1, unless 8, truth, unless 6, push, ret, push 1, ret, push 2, ret")
	wantBodies(t, "If(Truth 1, Num 1, If(Truth 0, Num 2, Num 3))", "truth 1, unless 4, push, ret, truth, unless 8, push 1, ret, push 2, ret")
	wantBodies(t, "If(Truth 1, Neg(If(Truth 0, Num 1, Num 2)), Num 3)", "truth 1, unless 9, truth, unless 6, push, jump 7, push 1, op 16, ret, push 2, ret")
	wantBodies(t, "Let(Num 1, If(Truth 1, Var 0, Num 1))", "push, let, truth 1, unless 6, local, ret, push, ret")
	wantBodies(t, "If(Truth 1, Let(Num 1, Let(Num 2, Var 1)), Num 1)", "truth 1, unless 8, push, let, push 1, let, local 1, ret, push, ret")
	wantBodies(t, "If(Truth 1, Let(Let(Num 1, Var 0), Var 0), Let(Num 1, Var 0))", "truth 1, unless 9, push, let, local, end, let, local, ret, push, let, local, ret")
	wantBodies(t, "Cast i ? 1 (If(Truth 1, Let(Num 1, Var 0), Num 1))", "truth 1, unless 7, push, let, local, cast, ret, push, cast, ret")
	wantBodies(t, "Fn >bi i (If(Call(Fn b b (Var 0), Truth 1), Call(Var 0, Truth 0), Call(Var 0, Truth 1)))",
		"fn 1, ret / fn 2, truth 1, call, unless 7, local, truth, tail, local, truth 1, tail / local, ret")
}

// Let ends where something stands behind it, and in the tail nowhere.
func TestLets(t *testing.T) {
	wantBodies(t, "Let(Num 1, Let(Num 2, Add(Var 0, Var 1)))", "push, let, push 1, let, local, local 1, op 10, ret")
	wantBodies(t, "Let(Let(Num 1, Let(Num 2, Var 1)), Var 0)", "push, let, push 1, let, local 1, end, end, let, local, ret")
	wantBodies(t, "Add(Let(Num 1, Var 0), Let(Num 2, Var 0))", "push, let, local, end, push 1, let, local, end, op 10, ret")
	wantBodies(t, "If(Let(Truth 1, Var 0), Num 1, Num 2)", "truth 1, let, local, end, unless 7, push, ret, push 1, ret")
	wantBodies(t, "List i (Let(Num 1, Var 0), Let(Num 1, Neg(Var 0)))", "push, let, local, end, push, let, local, op 16, end, list 2, ret")
	wantBodies(t, "Cast i ? 1 (Let(Num 1, Let(Num 2, Var 0)))", "push, let, push 1, let, local, cast, ret")
	wantBodies(t, "Cast i ? 1 (Let(Num 1, Cast i i 1 (Let(Num 2, Var 0))))", "push, let, push 1, let, local, cast, cast 1, ret")
	wantBodies(t, "Cast i ? 1 (Neg(Let(Num 1, Cast i i 1 (Let(Num 2, Var 0)))))", "push, let, push 1, let, local, end, cast, end, op 16, cast 1, ret")
	wantBodies(t, "Call(Let(Fn i i (Var 0), Var 0), Let(Num 1, Var 0))", "fn 1, let, local, end, push, let, local, end, tail / local, ret")
}
