package core_test

import (
	"slices"
	"strings"
	"testing"

	"culprit/api"
)

func TestExamplesOfTheChapter(t *testing.T) {
	takes(t, "Num 5", "i")
	wantRefused(t, nil, api.ErrTree, 0)
	refuses(t, "Add(Num 5, Truth 1)", api.ErrType, 0)
	refuses(t, "Truth 2", api.ErrNumber, 0)
	takes(t, "Fn i i (Var 0)", ">ii")
	refuses(t, "Fn i b (Var 0)", api.ErrType, 0)
	refuses(t, "Var 0", api.ErrUnbound, 0)
	takes(t, "Rec i i (Call(Var 1, Var 0))", ">ii")
	takes(t, "Cast i ? 1 (Num 5)", "?")
	refuses(t, "Cast i b 1 (Num 5)", api.ErrType, 0)
	refuses(t, "Cast i ? 0 (Num 5)", api.ErrNumber, 0)
	takes(t, "List i ()", "li")
	refuses(t, "List ? (Num 5)", api.ErrType, 0)
	takes(t, "Cons(Num 5, List i ())", "li")
	refuses(t, "Set(Box(Num 5), Str a)", api.ErrType, 0)
	takes(t, "Set(Box(Num 5), Num 6)", "i")
	refuses(t, "Call(Num 5, Num 5, Num 5)", api.ErrTree, 0)
	wantRefused(t, []api.Node{{Kind: api.Add, Kids: 2}, {Kind: api.Num}}, api.ErrTree, 2)
	wantRefused(t, slices.Concat(num(5), num(5)), api.ErrTree, 1)
	wantRefused(t, []api.Node{{Kind: api.As}}, api.ErrTree, 0)
	refuses(t, "As(Num 5)", api.ErrTree, 0)
}

func TestVar(t *testing.T) {
	takes(t, "Let(Num 1, Var 0)", "i")
	takes(t, "Let(Num 1, Let(Truth 1, Var 0))", "b")
	takes(t, "Let(Num 1, Let(Truth 1, Var 1))", "i")
	refuses(t, "Let(Num 1, Let(Truth 1, Var 2))", api.ErrUnbound, 4)
	takes(t, "Fn t i (Let(Num 1, Let(Truth 1, Var 1)))", ">ti")
	takes(t, "Fn t t (Let(Num 1, Let(Truth 1, Var 2)))", ">tt")
	refuses(t, "Fn t t (Let(Num 1, Let(Truth 1, Var 3)))", api.ErrUnbound, 5)
	takes(t, "Let(Str a, Rec i b (Let(Truth 1, Var 0)))", ">ib")
	takes(t, "Let(Str a, Rec i i (Let(Truth 1, Var 1)))", ">ii")
	takes(t, "Let(Str a, Rec i b (Let(Truth 1, Call(Var 2, Var 1))))", ">ib")
	takes(t, "Let(Str a, Rec i t (Let(Truth 1, Var 3)))", ">it")
	refuses(t, "Let(Str a, Rec i t (Let(Truth 1, Var 4)))", api.ErrUnbound, 5)
	takes(t, "Let(Cast xi ? 1 (Box(Num 1)), Var 0)", "?")
}

func TestFn(t *testing.T) {
	takes(t, "Fn i t (Str a)", ">it")
	takes(t, "Fn ? ? (Var 0)", ">??")
	takes(t, "Fn >i? >i? (Var 0)", ">>i?>i?")
	takes(t, "Fn i >b,ib (Fn b ,ib (Pair(Var 1, Var 0)))", ">i>b,ib")
	refuses(t, "Fn i ? (Var 0)", api.ErrType, 0)
	refuses(t, "Fn ? i (Var 0)", api.ErrType, 0)
	refuses(t, "Fn >i? >?i (Var 0)", api.ErrType, 0)
	refuses(t, "Fn i i (Var 1)", api.ErrUnbound, 1)
	refuses(t, "Fn i >ii (Var 1)", api.ErrUnbound, 1)
	refuses(t, "Pair(Num 1, Fn i b (Var 0))", api.ErrType, 2)
}

func TestRec(t *testing.T) {
	takes(t, "Rec i t (Str a)", ">it")
	takes(t, "Rec i t (Call(Var 1, Var 0))", ">it")
	takes(t, "Rec i i (Var 0)", ">ii")
	takes(t, "Rec ? ? (Cast >?? ? 1 (Var 1))", ">??")
	refuses(t, "Rec i >ii (Var 1)", api.ErrType, 0)
	refuses(t, "Rec i t (Var 0)", api.ErrType, 0)
	refuses(t, "Rec i i (Var 1)", api.ErrType, 0)
	refuses(t, "Rec i i (Var 2)", api.ErrUnbound, 1)
	refuses(t, "Rec i i (Call(Var 0, Var 1))", api.ErrType, 1)
	refuses(t, "Rec i i (Call(Var 1, Truth 1))", api.ErrType, 1)
}

func TestCall(t *testing.T) {
	takes(t, "Call(Fn i t (Str a), Num 1)", "t")
	takes(t, "Call(Fn ? b (Truth 0), Cast i ? 1 (Num 1))", "b")
	takes(t, "Call(Call(Fn i >tb (Fn t b (Truth 0)), Num 1), Str a)", "b")
	refuses(t, "Call(Fn i t (Str a), Str a)", api.ErrType, 0)
	refuses(t, "Call(Fn ? t (Str a), Num 1)", api.ErrType, 0)
	refuses(t, "Call(Fn i t (Str a), Cast i ? 1 (Num 1))", api.ErrType, 0)
	for _, other := range strings.Fields("i b t ? ,ii li xi") {
		wantRefused(t, of(api.Call, witness(other), num(1)), api.ErrType, 0)
	}
}

func TestLet(t *testing.T) {
	takes(t, "Let(Num 1, Str a)", "t")
	takes(t, "Let(Num 1, Neg(Var 0))", "i")
	takes(t, "Let(Fn i b (Truth 1), Call(Var 0, Num 1))", "b")
	takes(t, "Let(Num 1, Let(Pair(Var 0, Var 0), Var 0))", ",ii")
	// Its own binder stands in its second kid alone.
	refuses(t, "Let(Var 0, Num 1)", api.ErrUnbound, 1)
	takes(t, "Let(Truth 1, Let(Var 0, Var 0))", "b")
	takes(t, "Let(Truth 1, Let(If(Var 0, Num 1, Num 2), Pair(Var 0, Var 1)))", ",ib")
	refuses(t, "Let(Num 1, If(Var 0, Num 1, Num 1))", api.ErrType, 2)
}

func TestBindersEndWithTheirKid(t *testing.T) {
	refuses(t, "Pair(Fn i i (Var 0), Var 0)", api.ErrUnbound, 3)
	refuses(t, "Pair(Rec i i (Var 0), Var 0)", api.ErrUnbound, 3)
	refuses(t, "Pair(Let(Num 1, Var 0), Var 0)", api.ErrUnbound, 4)
	takes(t, "Let(Str a, Pair(Fn i i (Var 0), Var 0))", ",>iit")
	takes(t, "Let(Str a, Pair(Rec i i (Var 0), Var 0))", ",>iit")
	takes(t, "Let(Str a, Pair(Let(Num 1, Var 0), Var 0))", ",it")
	takes(t, "Let(Str a, Let(Let(Num 1, Var 0), Pair(Var 0, Var 1)))", ",it")
}

func TestIf(t *testing.T) {
	takes(t, "If(Truth 1, Num 1, Num 2)", "i")
	takes(t, "If(Less(Num 1, Num 2), List i (), List i (Num 1))", "li")
	refuses(t, "If(Truth 1, Num 1, Str a)", api.ErrType, 0)
	refuses(t, "If(Truth 1, Num 1, Cast i ? 1 (Num 2))", api.ErrType, 0)
	refuses(t, "If(Truth 1, Cast i ? 1 (Num 2), Num 1)", api.ErrType, 0)
	for _, other := range strings.Fields("i t ? >bb ,bb lb xb") {
		wantRefused(t, of(api.If, witness(other), num(1), num(1)), api.ErrType, 0)
	}
}

// Each operation: of what it asks for, and of every other type at each kid.
func TestOperations(t *testing.T) {
	for _, op := range []struct{ kinds, asked, given string }{
		{"Add Sub Mul", "ii", "i"}, {"Join", "tt", "t"}, {"Eq Less", "ii", "b"}, {"Neg", "i", "i"}, {"Size", "t", "i"},
	} {
		for _, name := range strings.Fields(op.kinds) {
			for at := -1; at < len(op.asked); at++ {
				for _, other := range strings.Fields("i b t ? >ii ,ii li xi") {
					var kids [][]api.Node
					for i, asked := range strings.Split(op.asked, "") {
						if i == at {
							asked = other
						}
						kids = append(kids, witness(asked))
					}
					l := of(kindOf(name), kids...)
					if at < 0 || other == op.asked[:1] {
						wantType(t, l, op.given)
					} else {
						wantRefused(t, l, api.ErrType, 0)
					}
				}
			}
		}
	}
}

func TestPairs(t *testing.T) {
	takes(t, "Pair(Num 1, Str a)", ",it")
	takes(t, "Pair(Pair(Truth 1, Num 1), Cast i ? 1 (Num 1))", ",,bi?")
	takes(t, "First(Pair(Num 1, Str a))", "i")
	takes(t, "Second(Pair(Num 1, Str a))", "t")
	takes(t, "First(Second(Pair(Num 1, Pair(Truth 1, Str a))))", "b")
	for _, other := range strings.Fields("i b t ? >ii li xi") {
		wantRefused(t, of(api.First, witness(other)), api.ErrType, 0)
		wantRefused(t, of(api.Second, witness(other)), api.ErrType, 0)
	}
}

func TestLists(t *testing.T) {
	takes(t, "List ? ()", "l?")
	takes(t, "List i (Num 1)", "li")
	takes(t, "List i (Num 1, Num 2, Num 3)", "li")
	takes(t, "List ? (Cast i ? 1 (Num 1), Cast b ? 2 (Truth 1))", "l?")
	takes(t, "List li (List i (), List i (Num 1))", "lli")
	refuses(t, "List i (Truth 1)", api.ErrType, 0)
	refuses(t, "List i (Num 1, Num 2, Truth 1)", api.ErrType, 0)
	refuses(t, "List i (Truth 1, Num 2, Num 1)", api.ErrType, 0)
	refuses(t, "List i (Cast i ? 1 (Num 1))", api.ErrType, 0)
	refuses(t, "List _ ()", api.ErrShape, 0)
	refuses(t, "List ii ()", api.ErrShape, 0)
	takes(t, "Head(List t ())", "t")
	takes(t, "Tail(List t ())", "lt")
	takes(t, "Empty(List t ())", "b")
	takes(t, "Cons(Str a, List t (Str b))", "lt")
	takes(t, "Cons(List i (), List li ())", "lli")
	refuses(t, "Cons(Num 1, List t ())", api.ErrType, 0)
	refuses(t, "Cons(Num 1, List ? ())", api.ErrType, 0)
	refuses(t, "Cons(Cast i ? 1 (Num 1), List i ())", api.ErrType, 0)
	refuses(t, "Cons(List i (), Num 1)", api.ErrType, 0)
	refuses(t, "Cons(List i (), List i ())", api.ErrType, 0)
	for _, other := range strings.Fields("i b t ? >ii ,ii xi") {
		for _, kind := range []int8{api.Head, api.Tail, api.Empty} {
			wantRefused(t, of(kind, witness(other)), api.ErrType, 0)
		}
		wantRefused(t, of(api.Cons, num(1), witness(other)), api.ErrType, 0)
	}
}

func TestBoxes(t *testing.T) {
	takes(t, "Box(Num 1)", "xi")
	takes(t, "Box(Box(Str a))", "xxt")
	takes(t, "Get(Box(Str a))", "t")
	takes(t, "Get(Get(Box(Box(Str a))))", "t")
	takes(t, "Set(Box(Str a), Str b)", "t")
	takes(t, "Set(Box(Box(Num 1)), Box(Num 2))", "xi")
	refuses(t, "Set(Box(Str a), Num 1)", api.ErrType, 0)
	refuses(t, "Set(Box(Num 1), Cast i ? 1 (Num 2))", api.ErrType, 0)
	refuses(t, "Set(Box(Cast i ? 1 (Num 2)), Num 1)", api.ErrType, 0)
	refuses(t, "Set(Num 1, Box(Num 1))", api.ErrType, 0)
	refuses(t, "Set(Box(Num 1), Box(Num 1))", api.ErrType, 0)
	for _, other := range strings.Fields("i b t ? >ii ,ii li") {
		wantRefused(t, of(api.Get, witness(other)), api.ErrType, 0)
		wantRefused(t, of(api.Set, witness(other), num(1)), api.ErrType, 0)
	}
}

func TestCast(t *testing.T) {
	takes(t, "Cast i i 1 (Num 1)", "i")
	takes(t, "Cast ? ? 1 (Cast i ? 2 (Num 1))", "?")
	takes(t, "Cast ? b 3 (Cast i ? 2 (Num 1))", "b")
	takes(t, "Cast >i? >?i 4 (Fn i ? (Cast i ? 5 (Var 0)))", ">?i")
	takes(t, "Cast >ii ? 4 (Fn i i (Var 0))", "?")
	takes(t, "Cast x? xli 4 (Box(Cast i ? 5 (Num 1)))", "xli")
	refuses(t, "Cast >ii >?b 4 (Fn i i (Var 0))", api.ErrType, 0)
	refuses(t, "Cast >ii ,ii 4 (Fn i i (Var 0))", api.ErrType, 0)
	refuses(t, "Cast li xi 4 (List i ())", api.ErrType, 0)
	// The kid is of just what the cast goes from.
	refuses(t, "Cast i ? 1 (Truth 1)", api.ErrType, 0)
	refuses(t, "Cast ? i 1 (Num 1)", api.ErrType, 0)
	refuses(t, "Cast >?? ? 1 (Fn i i (Var 0))", api.ErrType, 0)
	refuses(t, "Cast i ? 1 (Cast i ? 1 (Num 1))", api.ErrType, 0)
	for _, none := range strings.Fields("_ z ii >i > , l x li? int -> ()") {
		wantRefused(t, cast(strings.Trim(none, "_"), "?", 1, num(1)), api.ErrShape, 0)
		wantRefused(t, cast("?", strings.Trim(none, "_"), 1, num(1)), api.ErrShape, 0)
	}
}
