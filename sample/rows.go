package sample

import "culprit/api"

// Known is a term that checks; what is seen of its value (or why it has none) down to a depth, as Told tells it; and the steps of its run. Of one that does not end within MaxFuel steps Seen is fuel.
type Known struct {
	Term  []api.Node
	Depth int
	Seen  string
	Steps int
}

// row is one whose term is written.
type row struct {
	text, seen string
	steps      int
}

// Rows answers what each kind of node gives and does, by hand.
func Rows() (all []Known) {
	for _, some := range [][]row{leaves(), lets(), casts(), numbers(), texts(), ifs(), pairs(), lists(), boxes(), shared(), calls(), closures(), recs(), wrapped(), behind(), blamed(), again()} {
		for _, r := range some {
			all = append(all, Known{Term(r.text), 9, r.seen, r.steps})
		}
	}
	return all
}

func leaves() []row {
	return []row{
		{"Num 0", "num0", 0},
		{"Num -9223372036854775808", "num-9223372036854775808", 0},
		{"Num 9223372036854775807", "num9223372036854775807", 0},
		{"Str _", `text""`, 0},
		{"Str abc", `text"abc"`, 0},
		{"Truth 0", "truth0", 0},
		{"Truth 1", "truth1", 0},
		{"Fn i i (Var 0)", "fun", 0},
		{"Rec i i (Call(Var 1, Var 0))", "fun", 0},
		{"Fn i i (Head(List i ()))", "fun", 0},
	}
}

func lets() []row {
	return []row{
		{"Let(Num 4, Var 0)", "num4", 0},
		{"Let(Num 4, Num 5)", "num5", 0},
		{"Let(Num 4, Neg(Var 0))", "num-4", 1},
		{"Let(Num 1, Let(Str a, Pair(Var 0, Var 1)))", `pair text"a" num1`, 1},
		{"Let(Num 1, Let(Num 2, Let(Num 3, List i (Var 0, Var 1, Var 2))))", "cons num3 cons num2 cons num1 empty", 1},
		// In its first kid a Let binds nothing.
		{"Let(Num 1, Let(Pair(Var 0, Var 0), Let(Var 0, Pair(Var 0, Var 2))))", "pair pair num1 num1 num1", 2},
		// What one part binds the next one does not see.
		{"Let(Num 1, Pair(Let(Num 2, Var 0), Var 0))", "pair num2 num1", 1},
		{"Let(Num 1, Pair(Let(Num 2, Var 1), Let(Num 3, Pair(Var 0, Var 1))))", "pair num1 pair num3 num1", 2},
		// The first kid is run once, and though nobody asks for it.
		{"Let(Neg(Num 4), Pair(Var 0, Var 0))", "pair num-4 num-4", 2},
		{"Let(Head(List i ()), Num 1)", "fault34", 2},
		{"Let(Cast ? i 3 (Cast t ? 1 (Str a)), Num 1)", "blame3", 0},
	}
}

func casts() []row {
	return []row{
		{"Cast i i 1 (Num 1)", "num1", 0},
		{"Cast ? ? 1 (Cast i ? 2 (Num 1))", "num1", 0},
		{"Cast ? b 7 (Cast i ? 2 (Num 1))", "blame7", 0},
		{"Cast ? b 2147483647 (Cast i ? 2147483646 (Num 1))", "blame2147483647", 0},
		{"Cast ? >ii 5 (Cast i ? 2 (Num 1))", "blame5", 0},
		{"Cast ? ,it 5 (Cast ,ii ? 2 (Pair(Num 1, Num 2)))", "pair num1 blame5", 1},
		{"Cast ? ,bt 5 (Cast ,ii ? 2 (Pair(Num 1, Num 2)))", "pair blame5 blame5", 1},
		{"Cast l? lb 5 (Cast li l? 2 (List i (Num 1, Num 2)))", "cons blame5 cons blame5 empty", 1},
		{"Cast >ii >?? 5 (Cast >?? >ii 2 (Fn ? ? (Var 0)))", "fun", 0},
		{"Cast x? xb 5 (Box(Cast i ? 2 (Num 1)))", "box", 1},
		// The kid's steps come ahead, the cast has none.
		{"Cast ? b 7 (Cast i ? 2 (Neg(Neg(Num 1))))", "blame7", 2},
		// The inner one first.
		{"Cast ? b 7 (Cast i ? 2 (Cast ? i 4 (Cast t ? 5 (Str a))))", "blame4", 0},
	}
}

func numbers() []row {
	const most, least = "9223372036854775807", "-9223372036854775808"
	return []row{
		{"Add(Num 2, Num 3)", "num5", 1}, {"Add(Num 2, Num -3)", "num-1", 1}, {"Add(Num " + most + ", Num 1)", "num" + least, 1}, {"Add(Num " + least + ", Num -1)", "num" + most, 1},
		{"Sub(Num 2, Num 3)", "num-1", 1}, {"Sub(Num 3, Num 2)", "num1", 1}, {"Sub(Num " + least + ", Num 1)", "num" + most, 1}, {"Sub(Num 0, Num " + least + ")", "num" + least, 1},
		{"Mul(Num 2, Num 3)", "num6", 1}, {"Mul(Num -2, Num 3)", "num-6", 1}, {"Mul(Num 4294967296, Num 4294967296)", "num0", 1}, {"Mul(Num " + most + ", Num 2)", "num-2", 1}, {"Mul(Num " + least + ", Num -1)", "num" + least, 1},
		{"Neg(Num 2)", "num-2", 1}, {"Neg(Num 0)", "num0", 1}, {"Neg(Num " + least + ")", "num" + least, 1}, {"Neg(Num " + most + ")", "num-9223372036854775807", 1},
		{"Eq(Num 2, Num 2)", "truth1", 1}, {"Eq(Num 2, Num 3)", "truth0", 1}, {"Eq(Num 3, Num 2)", "truth0", 1}, {"Eq(Num " + least + ", Num " + least + ")", "truth1", 1}, {"Eq(Num 0, Num 4294967296)", "truth0", 1},
		{"Less(Num 2, Num 3)", "truth1", 1}, {"Less(Num 3, Num 2)", "truth0", 1}, {"Less(Num 2, Num 2)", "truth0", 1}, {"Less(Num " + least + ", Num " + most + ")", "truth1", 1}, {"Less(Num " + most + ", Num " + least + ")", "truth0", 1}, {"Less(Num -1, Num 0)", "truth1", 1},
		{"Add(Mul(Num 2, Num 3), Sub(Num 10, Neg(Num 4)))", "num20", 4},
	}
}

func texts() []row {
	return []row{
		{"Join(Str ab, Str c)", `text"abc"`, 1},
		{"Join(Str c, Str ab)", `text"cab"`, 1},
		{"Join(Str _, Str _)", `text""`, 1},
		{"Join(Join(Str a, Str b), Join(Str c, Str d))", `text"abcd"`, 3},
		{"Size(Str _)", "num0", 1},
		{"Size(Str abc)", "num3", 1},
	}
}

func ifs() []row {
	return []row{
		{"If(Truth 1, Num 1, Num 2)", "num1", 1},
		{"If(Truth 0, Num 1, Num 2)", "num2", 1},
		// One part alone is run.
		{"If(Truth 1, Num 1, Head(List i ()))", "num1", 1},
		{"If(Truth 0, Head(List i ()), Num 2)", "num2", 1},
		{"If(Truth 1, Cast ? i 1 (Cast t ? 3 (Str a)), Cast ? i 2 (Cast t ? 4 (Str b)))", "blame1", 1},
		{"If(Truth 0, Cast ? i 1 (Cast t ? 3 (Str a)), Cast ? i 2 (Cast t ? 4 (Str b)))", "blame2", 1},
		// The condition's steps, its own, the part's.
		{"If(Eq(Num 1, Neg(Num -1)), Neg(Num 1), Neg(Neg(Num 1)))", "num-1", 4},
		{"If(Eq(Num 1, Neg(Num 1)), Neg(Num 1), Neg(Neg(Num 1)))", "num1", 5},
		{"If(Empty(Tail(List i ())), Num 1, Num 2)", "fault34", 2},
		// Binders around it are seen in each kid.
		{"Let(Truth 0, Let(Num 3, If(Var 1, Num 1, Let(Num 4, Add(Var 0, Var 1)))))", "num7", 2},
	}
}

func pairs() []row {
	return []row{
		{"Pair(Num 1, Str a)", `pair num1 text"a"`, 1},
		{"First(Pair(Num 1, Str a))", "num1", 2},
		{"Second(Pair(Num 1, Str a))", `text"a"`, 2},
		{"First(Cast ,?? ,ib 3 (Cast ,it ,?? 4 (Pair(Num 1, Str a))))", "num1", 2},
		{"Second(Cast ,?? ,ib 3 (Cast ,it ,?? 4 (Pair(Num 1, Str a))))", "blame3", 2},
		{"First(Cast ,?? ,bt 3 (Cast ,it ,?? 4 (Pair(Num 1, Str a))))", "blame3", 2},
		{"Second(Cast ,?? ,bt 3 (Cast ,it ,?? 4 (Pair(Num 1, Str a))))", `text"a"`, 2},
		{"Second(Second(Pair(Num 1, Pair(Num 2, Num 3))))", "num3", 4},
	}
}

func lists() []row {
	return []row{
		{"List i ()", "empty", 1},
		{"List i (Num 1)", "cons num1 empty", 1},
		{"List i (Num 1, Neg(Num 2), Num 3)", "cons num1 cons num-2 cons num3 empty", 2},
		{"Cons(Num 1, List i ())", "cons num1 empty", 2},
		{"Cons(Num 1, Cons(Num 2, List i (Num 3)))", "cons num1 cons num2 cons num3 empty", 3},
		{"Head(List i (Num 1, Num 2))", "num1", 2},
		{"Tail(List i (Num 1, Num 2))", "cons num2 empty", 2},
		{"Tail(Tail(List i (Num 1, Num 2)))", "empty", 3},
		{"Empty(List i ())", "truth1", 2},
		{"Empty(List i (Num 1))", "truth0", 2},
		{"Empty(Tail(List i (Num 1)))", "truth1", 3},
		{"Head(List i ())", "fault34", 2},
		{"Tail(List i ())", "fault34", 2},
		{"Head(Tail(List i (Num 1)))", "fault34", 3},
		{"Head(Cast li l? 1 (List i ()))", "fault34", 2},
		{"Tail(Cast li l? 1 (List i ()))", "fault34", 2},
		{"Head(Cast l? lb 3 (List ? (Cast i ? 4 (Num 1))))", "blame3", 2},
		{"Tail(Cast l? lb 3 (List ? (Cast i ? 4 (Num 1), Cast i ? 5 (Num 2))))", "cons blame3 empty", 2},
		{"Empty(Cast l? lb 3 (List ? (Cast i ? 4 (Num 1))))", "truth0", 2},
		{"Cons(Truth 1, Cast l? lb 3 (List ? (Cast i ? 4 (Num 1))))", "cons truth1 cons blame3 empty", 2},
	}
}

func boxes() []row {
	return []row{
		{"Box(Num 1)", "box", 1},
		{"Get(Box(Num 1))", "num1", 2},
		{"Set(Box(Num 1), Num 2)", "num2", 2},
		{"Let(Box(Num 1), Pair(Set(Var 0, Num 2), Get(Var 0)))", "pair num2 num2", 4},
		{"Let(Box(Num 1), Pair(Get(Var 0), Set(Var 0, Num 2)))", "pair num1 num2", 4},
		// Each Box makes one of its own; all who have a box see one cell.
		{"Let(Box(Num 1), Let(Box(Num 1), Let(Set(Var 0, Num 5), Pair(Get(Var 1), Get(Var 2)))))", "pair num5 num1", 6},
		{"Let(Box(Num 1), Let(Var 0, Let(Set(Var 0, Num 5), Get(Var 2))))", "num5", 3},
		{"Let(Fn i xi (Box(Var 0)), Let(Call(Var 0, Num 1), Let(Call(Var 1, Num 1), Let(Set(Var 0, Num 5), Pair(Get(Var 1), Get(Var 2))))))", "pair num5 num1", 8},
		{"Let(Box(Num 1), Let(Fn xi i (Set(Var 0, Add(Get(Var 0), Num 1))), Let(Call(Var 0, Var 1), Let(Call(Var 1, Var 2), Get(Var 3)))))", "num3", 10},
		// Looked at by other types.
		{"Get(Cast x? xb 3 (Box(Cast i ? 4 (Num 1))))", "blame3", 2},
		{"Get(Cast xi x? 3 (Box(Num 1)))", "num1", 2},
		{"Set(Cast xi x? 3 (Box(Num 1)), Cast b ? 4 (Truth 1))", "blame-3", 2},
		{"Let(Box(Cast i ? 4 (Num 1)), Let(Set(Cast x? xb 3 (Var 0), Truth 1), Get(Cast x? xi 5 (Var 1))))", "blame5", 3},
		// The value that was set, as the second kid gave it: here it has still the type ?.
		{"Cast ? i 5 (Set(Cast xi x? 3 (Box(Num 1)), Cast i ? 4 (Num 7)))", "num7", 2},
		{"Neg(Set(Cast x? xi 3 (Box(Cast i ? 4 (Num 1))), Num 7))", "num-7", 3},
		{"Let(Box(Fn i i (Num 1)), First(Pair(Call(Set(Cast x>ii x>?? 3 (Var 0), Cast >ii >?? 4 (Fn i i (Num 2))), Cast b ? 5 (Truth 1)), Num 0)))", "blame-4", 3},
		// A box may hold a function that finds it there.
		{"Let(Box(Fn i i (Var 0)), Let(Fn i i (If(Eq(Var 0, Num 0), Num 9, Call(Get(Var 1), Sub(Var 0, Num 1)))), Let(Set(Var 1, Var 0), Call(Var 1, Num 2))))", "num9", 3 + 2*5 + 2},
	}
}

// All boxes of a run are of one heap: what one part makes each other one may take, through pairs, lists, functions, boxes and casts.
func shared() []row {
	return []row{
		{"Let(Box(Box(Num 1)), Let(Fn xxi xi (Get(Var 0)), Let(Set(Call(Var 0, Var 1), Num 5), Get(Get(Var 2)))))", "num5", 7},
		{"Let(Pair(Box(Num 1), List xi (Box(Num 2))), Let(Set(First(Var 0), Get(Head(Second(Var 0)))), Get(First(Var 1))))", "num2", 11},
		{"Let(Cast xi ? 1 (Box(Num 1)), Let(Cast ? xi 2 (Var 0), Let(Set(Var 0, Num 8), Get(Cast ? x? 3 (Var 2)))))", "num8", 3},
		{"Let(Box(Num 0), Let(Rec i i (If(Eq(Var 0, Num 0), Get(Var 2), Let(Set(Var 2, Add(Get(Var 2), Var 0)), Call(Var 2, Sub(Var 1, Num 1))))), Call(Var 0, Num 4)))", "num10", 1 + 1 + 4*7 + 3},
	}
}

func calls() []row {
	return []row{
		{"Call(Fn i i (Var 0), Num 4)", "num4", 1},
		{"Call(Fn i i (Add(Var 0, Num 1)), Num 4)", "num5", 2},
		{"Call(Fn i t (Str a), Num 4)", `text"a"`, 1},
		{"Call(Call(Fn i >ii (Fn i i (Sub(Var 1, Var 0))), Num 10), Num 4)", "num6", 3},
		{"Call(Fn >ii i (Call(Var 0, Call(Var 0, Num 1))), Fn i i (Mul(Num 3, Var 0)))", "num9", 5},
		// The argument is run ahead, once, and though nobody asks for it.
		{"Call(Fn i ,ii (Pair(Var 0, Var 0)), Neg(Num 4))", "pair num-4 num-4", 3},
		{"Call(Fn i i (Num 1), Head(List i ()))", "fault34", 2},
		// A body that no call reaches is not run.
		{"Let(Fn i i (Head(List i ())), Num 1)", "num1", 0},
	}
}

// A function has what its binders have where it was made, not where it is called.
func closures() []row {
	return []row{
		{"Let(Num 1, Let(Fn i i (Add(Var 0, Var 1)), Let(Num 100, Call(Var 1, Num 5))))", "num6", 2},
		{"Let(Fn i >ii (Fn i i (Sub(Var 1, Var 0))), Let(Call(Var 0, Num 10), Let(Call(Var 1, Num 20), Pair(Call(Var 1, Num 1), Call(Var 0, Num 1)))))", "pair num9 num19", 7},
		{"Let(Num 1, Let(Fn i i (Var 1), Call(Fn i i (Call(Var 1, Var 0)), Num 3)))", "num1", 2},
		{"Let(Num 1, Call(Fn i i (Let(Num 3, Add(Var 0, Add(Var 1, Var 2)))), Num 20))", "num24", 3},
		// Each call has its own argument, also when the first one still waits.
		{"Call(Rec i i (If(Eq(Var 0, Num 0), Num 0, Sub(Var 0, Call(Var 1, Sub(Var 0, Num 1))))), Num 4)", "num2", 1 + 4*5 + 2},
	}
}

func recs() []row {
	return []row{
		// 0 is the argument, 1 the function itself.
		{"Call(Rec i i (Var 0), Num 4)", "num4", 1},
		{"Call(Rec i i (If(Less(Var 0, Num 1), Num 1, Mul(Var 0, Call(Var 1, Sub(Var 0, Num 1))))), Num 5)", "num120", 1 + 5*5 + 2},
		{"Let(Num 7, Call(Rec i i (If(Eq(Var 0, Num 0), Var 2, Call(Var 1, Sub(Var 0, Num 1)))), Num 3))", "num7", 1 + 3*4 + 2},
		{"Let(Num 7, Call(First(Call(Rec i ,>iii (Pair(Fn i i (Add(Var 3, Var 0)), Var 0)), Num 3)), Num 1))", "num8", 5},
		// Unwrapped: by the wrapper the inner call's argument would be cast from ?, and blame, or be stuck.
		{"Call(Cast >ii >?? 1 (Rec i i (If(Eq(Var 0, Num 0), Num 0, Call(Var 1, Sub(Var 0, Num 1))))), Cast i ? 2 (Num 3))", "num0", 15},
		{"Call(Cast >?? >ib 5 (Rec ? ? (If(Eq(Cast ? i 3 (Var 0), Num 0), Cast b ? 4 (Truth 0), Call(Var 1, Cast t ? 6 (Str a))))), Num 3)", "blame3", 4},
		{"Let(Cast >i? >ii 5 (Rec i ? (If(Eq(Var 0, Num 0), Cast i ? 3 (Num 1), If(Empty(List i ()), Let(Call(Var 1, Num 0), Cast t ? 4 (Str a)), Cast i ? 7 (Num 2))))), Call(Var 0, Num 1))", "blame5", 9},
		// Seen, it is a function as any other.
		{"Call(Rec i ? (Cast >i? ? 1 (Var 1)), Num 1)", "fun", 1},
		{"Call(Cast ? >i? 2 (Call(Rec i ? (Cast >i? ? 1 (Var 1)), Num 1)), Num 1)", "fun", 2},
	}
}

// A function that is wrapped, however often, makes one step a call.
func wrapped() []row {
	return []row{
		{"Call(Cast >ii >?? 1 (Fn i i (Var 0)), Cast i ? 2 (Num 1))", "num1", 1},
		{"Call(Cast >?? >ii 3 (Cast >ii >?? 1 (Fn i i (Var 0))), Num 1)", "num1", 1},
		{"Call(Cast ? >ii 4 (Cast >ii ? 3 (Cast >?? >ii 2 (Cast >ii >?? 1 (Fn i i (Neg(Var 0)))))), Num 1)", "num-1", 2},
		// What it is handed is blamed on who uses it, ahead of the body, behind the step.
		{"Call(Cast >ii >?i 1 (Fn i i (Head(List i ()))), Cast b ? 2 (Truth 1))", "blame-1", 1},
		{"Call(Cast >?i >bi 3 (Cast >ii >?i 1 (Fn i i (Head(List i ())))), Truth 1)", "blame-1", 1},
		// What it gives is blamed on it, behind the body.
		{"Call(Cast >i? >ii 1 (Fn i ? (Cast b ? 2 (Truth 1))), Num 1)", "blame1", 1},
		{"Call(Cast >i? >ii 1 (Fn i ? (Cast b ? 2 (Eq(Var 0, Num 1)))), Num 1)", "blame1", 2},
		{"Call(Cast >i? >ii 1 (Fn i ? (Cast b ? 2 (Empty(Tail(List i ()))))), Num 1)", "fault34", 3},
		// The function of a function turns the sides round twice.
		{"Call(Cast >>?ii >>iii 1 (Fn >?i i (Call(Var 0, Cast b ? 2 (Truth 1)))), Fn i i (Var 0))", "blame1", 2},
		{"Call(Cast >>iii >>?ii 1 (Fn >ii i (Call(Var 0, Num 1))), Fn ? i (Cast ? i 3 (Var 0)))", "num1", 2},
		{"Call(Cast >>iii >>i?i 1 (Fn >ii i (Call(Var 0, Num 1))), Fn i ? (Cast b ? 3 (Truth 1)))", "blame-1", 2},
		// The function and its argument are run ahead of the step, in this order; the blame of what is handed in comes behind both.
		{"Call(Cast ? >ii 5 (Cast i ? 1 (Neg(Num 1))), Head(List i ()))", "blame5", 1},
		{"Call(Cast >ii >?i 1 (Call(Fn i >ii (Fn i i (Var 0)), Num 1)), Cast b ? 2 (Eq(Num 1, Num 2)))", "blame-1", 3},
	}
}

// What a node does itself comes behind its step: with one step fewer the fuel is used up ahead of it.
func behind() []row {
	return []row{
		{"Head(List i ())", "fault34", 2},
		{"Tail(List i ())", "fault34", 2},
		{"First(Cast ,?? ,bt 3 (Pair(Cast i ? 4 (Num 1), Cast t ? 5 (Str a))))", "blame3", 2},
		{"Second(Cast ,?? ,ii 3 (Pair(Cast i ? 4 (Num 1), Cast t ? 5 (Str a))))", "blame3", 2},
		{"Head(Cast l? lb 3 (List ? (Cast i ? 4 (Num 1))))", "blame3", 2},
		{"Get(Cast x? xb 3 (Box(Cast i ? 4 (Num 1))))", "blame3", 2},
		{"Set(Cast xi x? 3 (Box(Num 1)), Cast b ? 4 (Truth 1))", "blame-3", 2},
		{"Call(Cast >ii >?i 3 (Fn i i (Neg(Var 0))), Cast b ? 4 (Truth 1))", "blame-3", 1},
		{"Call(Cast >i? >ii 3 (Fn i ? (Cast b ? 4 (Truth 1))), Num 1)", "blame3", 1},
	}
}

// Who is to blame: casts of functions and of boxes turn the sides round.
func blamed() []row {
	return []row{
		{"Cast ? i 2 (Cast b ? 1 (Truth 1))", "blame2", 0},
		{"Call(Cast >ii >?i 7 (Fn i i (Var 0)), Cast b ? 1 (Truth 1))", "blame-7", 1},
		{"Call(Cast >i? >ii 7 (Fn i ? (Cast b ? 1 (Truth 1))), Num 1)", "blame7", 1},
		{"Get(Cast x? xi 7 (Box(Cast b ? 1 (Truth 1))))", "blame7", 2},
		{"Set(Cast xi x? 7 (Box(Num 1)), Cast b ? 1 (Truth 1))", "blame-7", 2},
		{"Call(Cast ? >?? 8 (Cast >ii ? 7 (Fn i i (Var 0))), Cast b ? 1 (Truth 1))", "blame-7", 1},
		{"Call(Cast ? >ib 8 (Cast >ii ? 7 (Fn i i (Var 0))), Num 1)", "blame8", 1},
		{"Call(Cast ? >bi 8 (Cast >ii ? 7 (Fn i i (Var 0))), Truth 1)", "blame-7", 1},
		{"Call(Cast >>iii >>i?i 7 (Fn >ii i (Call(Var 0, Num 1))), Fn i ? (Cast b ? 1 (Truth 1)))", "blame-7", 2},
		{"Call(Cast >>?ii >>iii 7 (Fn >?i i (Call(Var 0, Cast b ? 1 (Truth 1)))), Fn i i (Var 0))", "blame7", 2},
		// The same label on two casts.
		{"Pair(Cast i ? 1 (Num 1), Cast ? i 1 (Cast b ? 1 (Truth 1)))", "blame1", 0},
	}
}

// One value, cast over and over: the first cast that fails is to blame, from the innermost on where a part comes out, from the outermost on where one goes in.
func again() []row {
	return []row{
		{"Cast ? b 3 (Cast i ? 2 (Cast ? i 1 (Cast i ? 4 (Num 1))))", "blame3", 0},
		{"Cast ? i 3 (Cast b ? 2 (Cast ? b 1 (Cast i ? 4 (Num 1))))", "blame1", 0},
		{"Cast ? ,?? 3 (Cast >?? ? 2 (Cast ? >?? 1 (Cast >ii ? 4 (Fn i i (Var 0)))))", "blame3", 0},
		{"Cast ,?? ,ib 4 (Cast ,ii ,?? 3 (Cast ,?? ,ii 2 (Cast ,it ,?? 1 (Pair(Num 1, Str a)))))", "pair num1 blame2", 1},
		{"First(Cast ,?? ,ib 4 (Cast ,ii ,?? 3 (Cast ,?? ,ii 2 (Cast ,it ,?? 1 (Pair(Num 1, Str a))))))", "num1", 2},
		{"Second(Cast ,?? ,ib 4 (Cast ,ii ,?? 3 (Cast ,?? ,ii 2 (Cast ,it ,?? 1 (Pair(Num 1, Str a))))))", "blame2", 2},
		{"First(Second(Cast ,i? ,i,bi 3 (Cast ,i,ti ,i? 2 (Cast ,i? ,i,ti 1 (Pair(Num 1, Cast ,ii ? 8 (Pair(Num 2, Num 3))))))))", "blame1", 4},
		{"Second(Second(Cast ,i? ,i,bi 3 (Cast ,i,ti ,i? 2 (Cast ,i? ,i,ti 1 (Pair(Num 1, Cast ,ii ? 8 (Pair(Num 2, Num 3))))))))", "num3", 4},
		{"Head(Cast l? lb 4 (Cast lt l? 3 (Cast l? lt 2 (Cast li l? 1 (List i (Num 1))))))", "blame2", 2},
		{"Tail(Cast l? lb 4 (Cast lt l? 3 (Cast l? lt 2 (Cast li l? 1 (List i (Num 1, Num 2))))))", "cons blame2 empty", 2},
		{"Empty(Tail(Cast l? lb 4 (Cast lt l? 3 (Cast l? lt 2 (Cast li l? 1 (List i (Num 1)))))))", "truth1", 3},
		// What a function gives, and what it is handed.
		{"Call(Cast >i? >it 3 (Cast >ii >i? 2 (Cast >i? >ii 1 (Fn i ? (Cast b ? 9 (Truth 1))))), Num 1)", "blame1", 1},
		{"Call(Cast >i? >it 3 (Cast >ii >i? 2 (Cast >i? >ii 1 (Fn i ? (Cast i ? 9 (Var 0))))), Num 1)", "blame3", 1},
		{"Call(Cast >bi >?i 3 (Cast >?i >bi 2 (Cast >ii >?i 1 (Fn i i (Var 0)))), Cast t ? 9 (Str a))", "blame-3", 1},
		{"Call(Cast >bi >?i 3 (Cast >?i >bi 2 (Cast >ii >?i 1 (Fn i i (Var 0)))), Cast b ? 9 (Truth 1))", "blame-1", 1},
		{"Call(Cast >>?ii >>bii 2 (Cast >>iii >>?ii 1 (Fn >ii i (Call(Var 0, Num 1)))), Fn b i (Num 5))", "blame2", 2},
		{"Call(Cast ? >it 4 (Cast >?? ? 3 (Cast ? >?? 2 (Cast >ii ? 1 (Fn i i (Var 0))))), Num 1)", "blame4", 1},
		{"Call(Cast ? >ii 4 (Cast >?? ? 3 (Cast ? >?? 2 (Cast >ii ? 1 (Fn i i (Var 0))))), Num 1)", "num1", 1},
		// What a box is read as, and what is set into it.
		{"Get(Cast x? xt 3 (Cast xi x? 2 (Cast x? xi 1 (Box(Cast b ? 9 (Truth 1))))))", "blame1", 2},
		{"Get(Cast x? xt 3 (Cast xi x? 2 (Cast x? xi 1 (Box(Cast i ? 9 (Num 1))))))", "blame3", 2},
		{"Set(Cast xb x? 3 (Cast x? xb 2 (Cast xi x? 1 (Box(Num 1)))), Cast t ? 9 (Str a))", "blame-3", 2},
		{"Set(Cast xb x? 3 (Cast x? xb 2 (Cast xi x? 1 (Box(Num 1)))), Cast b ? 9 (Truth 1))", "blame-1", 2},
		{"Let(Box(Cast i ? 9 (Num 1)), Let(Set(Cast x? xb 1 (Var 0), Truth 1), Get(Cast x? xi 2 (Cast xb x? 3 (Cast x? xb 4 (Var 1))))))", "blame2", 3},
		{"Let(Box(Cast i ? 9 (Num 1)), Let(Set(Cast x? xb 1 (Cast xi x? 5 (Cast x? xi 6 (Var 0))), Truth 1), Num 2))", "blame-5", 2},
	}
}
