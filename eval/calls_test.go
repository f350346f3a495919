package eval_test

import "testing"

func TestCalls(t *testing.T) {
	gives(t, "Call(Fn i i (Var 0), Num 4)", "num4", 1)
	gives(t, "Call(Fn i i (Add(Var 0, Num 1)), Num 4)", "num5", 2)
	gives(t, "Call(Fn i t (Str a), Num 4)", `text"a"`, 1)
	gives(t, "Call(Call(Fn i >ii (Fn i i (Sub(Var 1, Var 0))), Num 10), Num 4)", "num6", 3)
	gives(t, "Call(Fn >ii i (Call(Var 0, Call(Var 0, Num 1))), Fn i i (Mul(Num 3, Var 0)))", "num9", 5)
	// The argument is run ahead, once, and though nobody asks for it.
	gives(t, "Call(Fn i ,ii (Pair(Var 0, Var 0)), Neg(Num 4))", "pair num-4 num-4", 3)
	gives(t, "Call(Fn i i (Num 1), Head(List i ()))", "fault34", 2)
	// A body that no call reaches is not run.
	gives(t, "Let(Fn i i (Head(List i ())), Num 1)", "num1", 0)
}

// A function has what its binders have where it was made, not where it is called.
func TestClosures(t *testing.T) {
	gives(t, "Let(Num 1, Let(Fn i i (Add(Var 0, Var 1)), Let(Num 100, Call(Var 1, Num 5))))", "num6", 2)
	gives(t, "Let(Fn i >ii (Fn i i (Sub(Var 1, Var 0))), Let(Call(Var 0, Num 10), Let(Call(Var 1, Num 20), Pair(Call(Var 1, Num 1), Call(Var 0, Num 1)))))", "pair num9 num19", 7)
	gives(t, "Let(Num 1, Let(Fn i i (Var 1), Call(Fn i i (Call(Var 1, Var 0)), Num 3)))", "num1", 2)
	gives(t, "Let(Num 1, Call(Fn i i (Let(Num 3, Add(Var 0, Add(Var 1, Var 2)))), Num 20))", "num24", 3)
	// Each call has its own argument, also when the first one still waits.
	gives(t, "Call(Rec i i (If(Eq(Var 0, Num 0), Num 0, Sub(Var 0, Call(Var 1, Sub(Var 0, Num 1))))), Num 4)", "num2", 1+4*5+2)
}

func TestRecs(t *testing.T) {
	// 0 is the argument, 1 the function itself.
	gives(t, "Call(Rec i i (Var 0), Num 4)", "num4", 1)
	gives(t, "Call(Rec i i (If(Less(Var 0, Num 1), Num 1, Mul(Var 0, Call(Var 1, Sub(Var 0, Num 1))))), Num 5)", "num120", 1+5*5+2)
	gives(t, "Let(Num 7, Call(Rec i i (If(Eq(Var 0, Num 0), Var 2, Call(Var 1, Sub(Var 0, Num 1)))), Num 3))", "num7", 1+3*4+2)
	gives(t, "Let(Num 7, Call(First(Call(Rec i ,>iii (Pair(Fn i i (Add(Var 3, Var 0)), Var 0)), Num 3)), Num 1))", "num8", 5)
	// Unwrapped: by the wrapper the inner call's argument would be cast from ?, and blame, or be stuck.
	gives(t, "Call(Cast >ii >?? 1 (Rec i i (If(Eq(Var 0, Num 0), Num 0, Call(Var 1, Sub(Var 0, Num 1))))), Cast i ? 2 (Num 3))", "num0", 15)
	gives(t, "Call(Cast >?? >ib 5 (Rec ? ? (If(Eq(Cast ? i 3 (Var 0), Num 0), Cast b ? 4 (Truth 0), Call(Var 1, Cast t ? 6 (Str a))))), Num 3)", "blame3", 4)
	gives(t, "Let(Cast >i? >ii 5 (Rec i ? (If(Eq(Var 0, Num 0), Cast i ? 3 (Num 1), If(Empty(List i ()), Let(Call(Var 1, Num 0), Cast t ? 4 (Str a)), Cast i ? 7 (Num 2))))), Call(Var 0, Num 1))", "blame5", 9)
	// Seen, it is a function as any other.
	gives(t, "Call(Rec i ? (Cast >i? ? 1 (Var 1)), Num 1)", "fun", 1)
	gives(t, "Call(Cast ? >i? 2 (Call(Rec i ? (Cast >i? ? 1 (Var 1)), Num 1)), Num 1)", "fun", 2)
}

// A function that is wrapped, however often, makes one step a call.
func TestWrappedCalls(t *testing.T) {
	gives(t, "Call(Cast >ii >?? 1 (Fn i i (Var 0)), Cast i ? 2 (Num 1))", "num1", 1)
	gives(t, "Call(Cast >?? >ii 3 (Cast >ii >?? 1 (Fn i i (Var 0))), Num 1)", "num1", 1)
	gives(t, "Call(Cast ? >ii 4 (Cast >ii ? 3 (Cast >?? >ii 2 (Cast >ii >?? 1 (Fn i i (Neg(Var 0)))))), Num 1)", "num-1", 2)
	// What it is handed is blamed on who uses it, ahead of the body, behind the step.
	gives(t, "Call(Cast >ii >?i 1 (Fn i i (Head(List i ()))), Cast b ? 2 (Truth 1))", "blame-1", 1)
	gives(t, "Call(Cast >?i >bi 3 (Cast >ii >?i 1 (Fn i i (Head(List i ())))), Truth 1)", "blame-1", 1)
	// What it gives is blamed on it, behind the body.
	gives(t, "Call(Cast >i? >ii 1 (Fn i ? (Cast b ? 2 (Truth 1))), Num 1)", "blame1", 1)
	gives(t, "Call(Cast >i? >ii 1 (Fn i ? (Cast b ? 2 (Eq(Var 0, Num 1)))), Num 1)", "blame1", 2)
	gives(t, "Call(Cast >i? >ii 1 (Fn i ? (Cast b ? 2 (Empty(Tail(List i ()))))), Num 1)", "fault34", 3)
	// The function of a function turns the sides round twice.
	gives(t, "Call(Cast >>?ii >>iii 1 (Fn >?i i (Call(Var 0, Cast b ? 2 (Truth 1)))), Fn i i (Var 0))", "blame1", 2)
	gives(t, "Call(Cast >>iii >>?ii 1 (Fn >ii i (Call(Var 0, Num 1))), Fn ? i (Cast ? i 3 (Var 0)))", "num1", 2)
	gives(t, "Call(Cast >>iii >>i?i 1 (Fn >ii i (Call(Var 0, Num 1))), Fn i ? (Cast b ? 3 (Truth 1)))", "blame-1", 2)
	// The function and its argument are run ahead of the step, in this order; the blame of what is handed in comes behind both.
	gives(t, "Call(Cast ? >ii 5 (Cast i ? 1 (Neg(Num 1))), Head(List i ()))", "blame5", 1)
	gives(t, "Call(Cast >ii >?i 1 (Call(Fn i >ii (Fn i i (Var 0)), Num 1)), Cast b ? 2 (Eq(Num 1, Num 2)))", "blame-1", 3)
}
