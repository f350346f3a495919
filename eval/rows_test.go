package eval_test

import (
	"math"
	"strings"
	"testing"

	"culprit/api"
)

// The chapter's own examples.
func TestExamples(t *testing.T) {
	for _, c := range []struct {
		text, seen string
		steps      int
	}{
		{"Add(Num 2, Num 3)", "num5", 1},
		{"Cast ? i 2 (Cast i ? 1 (Num 5))", "num5", 0},
		{"Add(Num 1, Cast ? i 2 (Cast b ? 1 (Truth 1)))", "blame2", 0},
		{"Call(Cast >ii >?? 1 (Fn i i (Var 0)), Cast b ? 2 (Truth 1))", "blame-1", 1},
		{"Head(List i ())", "fault34", 2},
		{"Let(Box(Num 1), Let(Set(Cast xi x? 3 (Var 0), Cast i ? 4 (Num 7)), Get(Var 1)))", "num7", 3},
	} {
		gives(t, c.text, c.seen, c.steps)
	}
	endless := term("Call(Rec i i (Call(Var 1, Var 0)), Num 1)")
	for _, fuel := range []int{0, 1, 2, 99, 100, 2047, 2048} {
		want(t, "P16.1", endless, ran(endless, fuel, 4), outcome{seen: "fuel", steps: fuel})
		want(t, "P16.2", endless, ranLoose(endless, fuel, 4), outcome{seen: "fuel", steps: fuel})
	}
	isStuck(t, "Add(Num 1, Truth 1)", 0, 1)
	isStuck(t, "Var 0", 0, 0)
}

func TestLeaves(t *testing.T) {
	gives(t, "Num 0", "num0", 0)
	gives(t, "Num -9223372036854775808", "num-9223372036854775808", 0)
	gives(t, "Num 9223372036854775807", "num9223372036854775807", 0)
	gives(t, "Str _", `text""`, 0)
	gives(t, "Str abc", `text"abc"`, 0)
	for _, s := range []string{" ", "\x00\xff\"\\", strings.Repeat("z", 64), "é"} {
		wantRun(t, str(s), 1, told([]api.Obs{{Kind: api.OText, S: s}}), 0)
	}
	gives(t, "Truth 0", "truth0", 0)
	gives(t, "Truth 1", "truth1", 0)
	for _, n := range []int64{2, -1, 256, 1 << 32, math.MinInt64} { // N is not 0
		wantLoose(t, truth(n), 1, outcome{seen: "truth1"})
		wantLoose(t, of(api.If, truth(n), num(1), num(2)), 1, outcome{seen: "num1", steps: 1})
	}
	gives(t, "Fn i i (Var 0)", "fun", 0)
	gives(t, "Rec i i (Call(Var 1, Var 0))", "fun", 0)
	gives(t, "Fn i i (Head(List i ()))", "fun", 0)
}

func TestLetsAndVars(t *testing.T) {
	gives(t, "Let(Num 4, Var 0)", "num4", 0)
	gives(t, "Let(Num 4, Num 5)", "num5", 0)
	gives(t, "Let(Num 4, Neg(Var 0))", "num-4", 1)
	gives(t, "Let(Num 1, Let(Str a, Pair(Var 0, Var 1)))", `pair text"a" num1`, 1)
	gives(t, "Let(Num 1, Let(Num 2, Let(Num 3, List i (Var 0, Var 1, Var 2))))", "cons num3 cons num2 cons num1 empty", 1)
	// In its first kid a Let binds nothing.
	gives(t, "Let(Num 1, Let(Pair(Var 0, Var 0), Let(Var 0, Pair(Var 0, Var 2))))", "pair pair num1 num1 num1", 2)
	// What one part binds the next one does not see.
	gives(t, "Let(Num 1, Pair(Let(Num 2, Var 0), Var 0))", "pair num2 num1", 1)
	gives(t, "Let(Num 1, Pair(Let(Num 2, Var 1), Let(Num 3, Pair(Var 0, Var 1))))", "pair num1 pair num3 num1", 2)
	// The first kid is run once, and though nobody asks for it.
	gives(t, "Let(Neg(Num 4), Pair(Var 0, Var 0))", "pair num-4 num-4", 2)
	gives(t, "Let(Head(List i ()), Num 1)", "fault34", 2)
	gives(t, "Let(Cast ? i 3 (Cast t ? 1 (Str a)), Num 1)", "blame3", 0)
}

func TestCasts(t *testing.T) {
	gives(t, "Cast i i 1 (Num 1)", "num1", 0)
	gives(t, "Cast ? ? 1 (Cast i ? 2 (Num 1))", "num1", 0)
	gives(t, "Cast ? b 7 (Cast i ? 2 (Num 1))", "blame7", 0)
	gives(t, "Cast ? b 2147483647 (Cast i ? 2147483646 (Num 1))", "blame2147483647", 0)
	gives(t, "Cast ? >ii 5 (Cast i ? 2 (Num 1))", "blame5", 0)
	gives(t, "Cast ? ,it 5 (Cast ,ii ? 2 (Pair(Num 1, Num 2)))", "pair num1 blame5", 1)
	gives(t, "Cast ? ,bt 5 (Cast ,ii ? 2 (Pair(Num 1, Num 2)))", "pair blame5 blame5", 1)
	gives(t, "Cast l? lb 5 (Cast li l? 2 (List i (Num 1, Num 2)))", "cons blame5 cons blame5 empty", 1)
	gives(t, "Cast >ii >?? 5 (Cast >?? >ii 2 (Fn ? ? (Var 0)))", "fun", 0)
	gives(t, "Cast x? xb 5 (Box(Cast i ? 2 (Num 1)))", "box", 1)
	// The kid's steps come ahead, the cast has none.
	gives(t, "Cast ? b 7 (Cast i ? 2 (Neg(Neg(Num 1))))", "blame7", 2)
	// The inner one first.
	gives(t, "Cast ? b 7 (Cast i ? 2 (Cast ? i 4 (Cast t ? 5 (Str a))))", "blame4", 0)
}

func TestNumbers(t *testing.T) {
	const most, least = "9223372036854775807", "-9223372036854775808"
	for _, c := range []struct{ text, seen string }{
		{"Add(Num 2, Num 3)", "num5"}, {"Add(Num 2, Num -3)", "num-1"}, {"Add(Num " + most + ", Num 1)", "num" + least}, {"Add(Num " + least + ", Num -1)", "num" + most},
		{"Sub(Num 2, Num 3)", "num-1"}, {"Sub(Num 3, Num 2)", "num1"}, {"Sub(Num " + least + ", Num 1)", "num" + most}, {"Sub(Num 0, Num " + least + ")", "num" + least},
		{"Mul(Num 2, Num 3)", "num6"}, {"Mul(Num -2, Num 3)", "num-6"}, {"Mul(Num 4294967296, Num 4294967296)", "num0"}, {"Mul(Num " + most + ", Num 2)", "num-2"}, {"Mul(Num " + least + ", Num -1)", "num" + least},
		{"Neg(Num 2)", "num-2"}, {"Neg(Num 0)", "num0"}, {"Neg(Num " + least + ")", "num" + least}, {"Neg(Num " + most + ")", "num-9223372036854775807"},
		{"Eq(Num 2, Num 2)", "truth1"}, {"Eq(Num 2, Num 3)", "truth0"}, {"Eq(Num 3, Num 2)", "truth0"}, {"Eq(Num " + least + ", Num " + least + ")", "truth1"}, {"Eq(Num 0, Num 4294967296)", "truth0"},
		{"Less(Num 2, Num 3)", "truth1"}, {"Less(Num 3, Num 2)", "truth0"}, {"Less(Num 2, Num 2)", "truth0"}, {"Less(Num " + least + ", Num " + most + ")", "truth1"}, {"Less(Num " + most + ", Num " + least + ")", "truth0"}, {"Less(Num -1, Num 0)", "truth1"},
	} {
		gives(t, c.text, c.seen, 1)
	}
	gives(t, "Add(Mul(Num 2, Num 3), Sub(Num 10, Neg(Num 4)))", "num20", 4)
}

// textOf: a term of a text of so many bytes, and its steps.
func textOf(bytes int) (l []api.Node, steps int) {
	if bytes <= api.MaxText {
		return str(strings.Repeat("q", bytes)), 0
	}
	left, first := textOf(bytes / 2)
	right, second := textOf(bytes - bytes/2)
	return of(api.Join, left, right), first + second + 1
}

func TestTexts(t *testing.T) {
	gives(t, "Join(Str ab, Str c)", `text"abc"`, 1)
	gives(t, "Join(Str c, Str ab)", `text"cab"`, 1)
	gives(t, "Join(Str _, Str _)", `text""`, 1)
	gives(t, "Join(Join(Str a, Str b), Join(Str c, Str d))", `text"abcd"`, 3)
	gives(t, "Size(Str _)", "num0", 1)
	gives(t, "Size(Str abc)", "num3", 1)
	wantRun(t, of(api.Size, str("é\x00")), 1, "num3", 1) // bytes, not letters
	wantLoose(t, of(api.Size, str(strings.Repeat("q", 5000))), 1, outcome{seen: "num5000", steps: 1})
	for _, c := range []struct{ left, right int }{{0, 4096}, {4096, 0}, {1, 4095}, {4095, 1}, {2048, 2048}, {2047, 2048}, {1, 4096}, {4096, 1}, {2048, 2049}, {4096, 4096}} {
		left, first := textOf(c.left)
		right, second := textOf(c.right)
		seen, steps := told([]api.Obs{{Kind: api.OText, S: strings.Repeat("q", c.left+c.right)}}), first+second+1
		if c.left+c.right > 4096 {
			seen = "fault35"
		}
		wantRun(t, of(api.Join, left, right), 1, seen, steps)
		size := steps + 1
		if c.left+c.right > 4096 {
			size = steps
		} else {
			seen = told([]api.Obs{{Kind: api.ONum, N: int64(c.left + c.right)}})
		}
		wantRun(t, of(api.Size, of(api.Join, left, right)), 1, seen, size)
	}
	// A text of a term that does not check may be longer than any that a term makes.
	for _, bytes := range []int{65, 4096} {
		wantLoose(t, of(api.Join, str(strings.Repeat("q", bytes)), str("")), 1, outcome{seen: told([]api.Obs{{Kind: api.OText, S: strings.Repeat("q", bytes)}}), steps: 1})
	}
	wantLoose(t, of(api.Join, str(strings.Repeat("q", 4097)), str("")), 1, outcome{seen: "fault35", steps: 1})
	// Where both are not texts it is stuck, however long the one is.
	wantLoose(t, of(api.Join, str(strings.Repeat("q", 4097)), num(1)), 1, outcome{seen: "fault32", steps: 1})
}

func TestIfs(t *testing.T) {
	gives(t, "If(Truth 1, Num 1, Num 2)", "num1", 1)
	gives(t, "If(Truth 0, Num 1, Num 2)", "num2", 1)
	// One part alone is run.
	gives(t, "If(Truth 1, Num 1, Head(List i ()))", "num1", 1)
	gives(t, "If(Truth 0, Head(List i ()), Num 2)", "num2", 1)
	gives(t, "If(Truth 1, Cast ? i 1 (Cast t ? 3 (Str a)), Cast ? i 2 (Cast t ? 4 (Str b)))", "blame1", 1)
	gives(t, "If(Truth 0, Cast ? i 1 (Cast t ? 3 (Str a)), Cast ? i 2 (Cast t ? 4 (Str b)))", "blame2", 1)
	// The condition's steps, its own, the part's.
	gives(t, "If(Eq(Num 1, Neg(Num -1)), Neg(Num 1), Neg(Neg(Num 1)))", "num-1", 4)
	gives(t, "If(Eq(Num 1, Neg(Num 1)), Neg(Num 1), Neg(Neg(Num 1)))", "num1", 5)
	gives(t, "If(Empty(Tail(List i ())), Num 1, Num 2)", "fault34", 2)
	// Binders around it are seen in each kid.
	gives(t, "Let(Truth 0, Let(Num 3, If(Var 1, Num 1, Let(Num 4, Add(Var 0, Var 1)))))", "num7", 2)
}

func TestPairs(t *testing.T) {
	gives(t, "Pair(Num 1, Str a)", `pair num1 text"a"`, 1)
	gives(t, "First(Pair(Num 1, Str a))", "num1", 2)
	gives(t, "Second(Pair(Num 1, Str a))", `text"a"`, 2)
	gives(t, "First(Cast ,?? ,ib 3 (Cast ,it ,?? 4 (Pair(Num 1, Str a))))", "num1", 2)
	gives(t, "Second(Cast ,?? ,ib 3 (Cast ,it ,?? 4 (Pair(Num 1, Str a))))", "blame3", 2)
	gives(t, "First(Cast ,?? ,bt 3 (Cast ,it ,?? 4 (Pair(Num 1, Str a))))", "blame3", 2)
	gives(t, "Second(Cast ,?? ,bt 3 (Cast ,it ,?? 4 (Pair(Num 1, Str a))))", `text"a"`, 2)
	gives(t, "Second(Second(Pair(Num 1, Pair(Num 2, Num 3))))", "num3", 4)
}

func TestLists(t *testing.T) {
	gives(t, "List i ()", "empty", 1)
	gives(t, "List i (Num 1)", "cons num1 empty", 1)
	gives(t, "List i (Num 1, Neg(Num 2), Num 3)", "cons num1 cons num-2 cons num3 empty", 2)
	gives(t, "Cons(Num 1, List i ())", "cons num1 empty", 2)
	gives(t, "Cons(Num 1, Cons(Num 2, List i (Num 3)))", "cons num1 cons num2 cons num3 empty", 3)
	gives(t, "Head(List i (Num 1, Num 2))", "num1", 2)
	gives(t, "Tail(List i (Num 1, Num 2))", "cons num2 empty", 2)
	gives(t, "Tail(Tail(List i (Num 1, Num 2)))", "empty", 3)
	gives(t, "Empty(List i ())", "truth1", 2)
	gives(t, "Empty(List i (Num 1))", "truth0", 2)
	gives(t, "Empty(Tail(List i (Num 1)))", "truth1", 3)
	gives(t, "Head(List i ())", "fault34", 2)
	gives(t, "Tail(List i ())", "fault34", 2)
	gives(t, "Head(Tail(List i (Num 1)))", "fault34", 3)
	gives(t, "Head(Cast li l? 1 (List i ()))", "fault34", 2)
	gives(t, "Tail(Cast li l? 1 (List i ()))", "fault34", 2)
	gives(t, "Head(Cast l? lb 3 (List ? (Cast i ? 4 (Num 1))))", "blame3", 2)
	gives(t, "Tail(Cast l? lb 3 (List ? (Cast i ? 4 (Num 1), Cast i ? 5 (Num 2))))", "cons blame3 empty", 2)
	gives(t, "Empty(Cast l? lb 3 (List ? (Cast i ? 4 (Num 1))))", "truth0", 2)
	gives(t, "Cons(Truth 1, Cast l? lb 3 (List ? (Cast i ? 4 (Num 1))))", "cons truth1 cons blame3 empty", 2)
}

func TestBoxes(t *testing.T) {
	gives(t, "Box(Num 1)", "box", 1)
	gives(t, "Get(Box(Num 1))", "num1", 2)
	gives(t, "Set(Box(Num 1), Num 2)", "num2", 2)
	gives(t, "Let(Box(Num 1), Pair(Set(Var 0, Num 2), Get(Var 0)))", "pair num2 num2", 4)
	gives(t, "Let(Box(Num 1), Pair(Get(Var 0), Set(Var 0, Num 2)))", "pair num1 num2", 4)
	// Each Box makes one of its own; all who have a box see one cell.
	gives(t, "Let(Box(Num 1), Let(Box(Num 1), Let(Set(Var 0, Num 5), Pair(Get(Var 1), Get(Var 2)))))", "pair num5 num1", 6)
	gives(t, "Let(Box(Num 1), Let(Var 0, Let(Set(Var 0, Num 5), Get(Var 2))))", "num5", 3)
	gives(t, "Let(Fn i xi (Box(Var 0)), Let(Call(Var 0, Num 1), Let(Call(Var 1, Num 1), Let(Set(Var 0, Num 5), Pair(Get(Var 1), Get(Var 2))))))", "pair num5 num1", 8)
	gives(t, "Let(Box(Num 1), Let(Fn xi i (Set(Var 0, Add(Get(Var 0), Num 1))), Let(Call(Var 0, Var 1), Let(Call(Var 1, Var 2), Get(Var 3)))))", "num3", 10)
	// Looked at by other types.
	gives(t, "Get(Cast x? xb 3 (Box(Cast i ? 4 (Num 1))))", "blame3", 2)
	gives(t, "Get(Cast xi x? 3 (Box(Num 1)))", "num1", 2)
	gives(t, "Set(Cast xi x? 3 (Box(Num 1)), Cast b ? 4 (Truth 1))", "blame-3", 2)
	gives(t, "Let(Box(Cast i ? 4 (Num 1)), Let(Set(Cast x? xb 3 (Var 0), Truth 1), Get(Cast x? xi 5 (Var 1))))", "blame5", 3)
	// The value that was set, as the second kid gave it: here it has still the type ?.
	gives(t, "Cast ? i 5 (Set(Cast xi x? 3 (Box(Num 1)), Cast i ? 4 (Num 7)))", "num7", 2)
	gives(t, "Neg(Set(Cast x? xi 3 (Box(Cast i ? 4 (Num 1))), Num 7))", "num-7", 3)
	gives(t, "Let(Box(Fn i i (Num 1)), First(Pair(Call(Set(Cast x>ii x>?? 3 (Var 0), Cast >ii >?? 4 (Fn i i (Num 2))), Cast b ? 5 (Truth 1)), Num 0)))", "blame-4", 3)
	// A box may hold a function that finds it there.
	gives(t, "Let(Box(Fn i i (Var 0)), Let(Fn i i (If(Eq(Var 0, Num 0), Num 9, Call(Get(Var 1), Sub(Var 0, Num 1)))), Let(Set(Var 1, Var 0), Call(Var 1, Num 2))))", "num9", 3+2*5+2)
}
