package eval_test

import (
	"fmt"
	"math"
	"strings"
	"testing"

	"culprit/api"
	"culprit/sample"
)

func TestStuckVars(t *testing.T) {
	isStuck(t, "Var 0", 0, 0)
	isStuck(t, "Var -1", 0, 0)
	isStuck(t, "Let(Num 1, Var 1)", 2, 0)
	isStuck(t, "Let(Var 0, Num 1)", 1, 0)
	isStuck(t, "Let(Num 1, Let(Var 1, Num 1))", 3, 0)
	isStuck(t, "Let(Num 1, Var -1)", 2, 0)
	isStuck(t, "Pair(Let(Num 1, Var 0), Var 0)", 4, 0)
	isStuck(t, "Pair(Neg(Num 1), Var 0)", 3, 1)
	isStuck(t, "Call(Fn i i (Var 1), Num 1)", 2, 1)
	isStuck(t, "Call(Rec i i (Var 2), Num 1)", 2, 1)
	isStuck(t, "Call(Fn i i (Var 0), Var 0)", 3, 0)
	isStuck(t, "Call(Var 0, Var 0)", 1, 0)
	for _, distance := range []int64{1, 2, 3, 1 << 32, 1<<32 + 1, math.MaxInt64, -1, -2, -1 << 32, math.MinInt64} {
		l := sample.Of(api.Let, sample.Num(1), sample.Var(distance))
		wantLoose(t, l, 9, outcome{seen: "fault32", node: 2})
		// What is called knows nothing of the binders where it is called.
		l = sample.Of(api.Let, sample.Fn("i", "i", sample.Var(2+max(distance, -3))), sample.Of(api.Let, sample.Num(1), sample.Of(api.Let, sample.Num(1), sample.Of(api.Call, sample.Var(2), sample.Num(1)))))
		if distance < math.MaxInt64 {
			wantLoose(t, l, 9, outcome{seen: "fault32", node: 2, steps: 1}.orArgument(2+max(distance, -3)))
		}
	}
}

// orArgument: a Var at the distance 0 has the argument.
func (o outcome) orArgument(distance int64) outcome {
	if distance == 0 {
		return outcome{seen: "num1", steps: 1}
	}
	return o
}

func TestStuckCasts(t *testing.T) {
	for _, text := range []string{
		"Cast z i 1 (Num 1)", "Cast i z 1 (Num 1)", "Cast _ i 1 (Num 1)", "Cast i _ 1 (Num 1)", "Cast >i ? 1 (Num 1)", "Cast ii ? 1 (Num 1)", // no types
		"Cast i b 1 (Num 1)", "Cast >ii >ib 1 (Fn i i (Var 0))", "Cast li xi 1 (Num 1)", // not consistent
		"Cast i ? 0 (Num 1)", "Cast i ? 2147483648 (Num 1)", "Cast i ? -2147483648 (Num 1)", "Cast i i 0 (Num 1)", // no label
		"Cast ? i 1 (Num 1)", "Cast ? b 1 (Truth 1)", "Cast ? >?? 1 (Fn ? ? (Var 0))", // what is cast has no tag
	} {
		isStuck(t, text, 0, 0)
	}
	isStuck(t, "Cast ? i 2 (Cast i ? 0 (Num 1))", 1, 0)
	isStuck(t, "Cast ? i 0 (Cast i ? 1 (Neg(Num 1)))", 0, 1)
	isStuck(t, "Pair(Num 1, Cast i b 1 (Neg(Num 1)))", 2, 1)
	isStuck(t, "Cast ? l? 2 (Cast i l? 1 (Num 1))", 1, 0)
	isStuck(t, "Cast ? ,?? 2 (Cast ? i 1 (Num 1))", 1, 0)
	// A cast wraps whatever stands there; what is wrong is found by who takes it apart.
	givesLoose(t, "Cast ,ii ,?? 1 (Num 1)", "num1", 0)
	isStuck(t, "First(Cast ,ii ,?? 1 (Num 1))", 0, 1)
	isStuck(t, "Neg(Cast li l? 1 (Num 1))", 0, 1)
	givesLoose(t, "Cast t ? 1 (Num 1)", "num1", 0)
	// A label that is turned is one to a cast, though not to a term that checks.
	givesLoose(t, "Cast ? b -1 (Cast i ? 2 (Num 1))", "blame-1", 0)
	givesLoose(t, "Call(Cast >ii >?i -3 (Fn i i (Var 0)), Cast b ? 1 (Truth 1))", "blame3", 1)
	isStuck(t, "Size(Cast ? t 2 (Cast t ? 1 (Num 1)))", 0, 1)
}

// Each take-apart, with each of its kids of another kind.
func TestStuckSteps(t *testing.T) {
	values := map[string]string{"i": "Num 1", "t": "Str a", "b": "Truth 1", ">": "Fn i i (Var 0)", ",": "Pair(Num 1, Num 2)", "l": "List i (Num 1)", "x": "Box(Num 1)", "?": "Cast i ? 1 (Num 1)", "e": "List i ()"}
	steps := map[string]int{",": 1, "l": 1, "x": 1, "e": 1}
	for kind, heads := range map[string]string{
		"Add": "i i", "Sub": "i i", "Mul": "i i", "Eq": "i i", "Less": "i i", "Neg": "i", "Join": "t t", "Size": "t",
		"First": ",", "Second": ",", "Head": "l", "Tail": "l", "Empty": "l", "Get": "x",
	} {
		heads := strings.Fields(heads)
		for wrong := range heads {
			for head, value := range values {
				if head == heads[wrong] || head == "e" && heads[wrong] == "l" {
					continue
				}
				kids := make([]string, len(heads))
				sum := 1
				for i, right := range heads {
					kids[i] = values[right]
					if i == wrong {
						kids[i] = value
						sum += steps[head]
					} else {
						sum += steps[right]
					}
				}
				isStuck(t, fmt.Sprintf("%s(%s)", kind, strings.Join(kids, ", ")), 0, sum)
			}
		}
	}
	for head, value := range values {
		if head != "b" {
			isStuck(t, "If("+value+", Num 1, Num 2)", 0, 1+steps[head])
		}
		if head != ">" {
			isStuck(t, "Call("+value+", Num 1)", 0, 1+steps[head])
		}
		if head != "x" {
			isStuck(t, "Set("+value+", Num 1)", 0, 1+steps[head])
		}
	}
	// Wrapped by what is of another head.
	isStuck(t, "Call(Cast li l? 1 (Fn i i (Var 0)), Num 1)", 0, 1)
	isStuck(t, "Empty(Cast >ii >?? 1 (List i ()))", 0, 2)
	isStuck(t, "Head(Cast xi x? 1 (List i (Num 1)))", 0, 2)
	isStuck(t, "Head(Cast xi x? 1 (List i ()))", 0, 2)
	isStuck(t, "Tail(Cast xi x? 1 (List i (Num 1)))", 0, 2)
	isStuck(t, "Get(Cast li l? 1 (Box(Num 1)))", 0, 2)
	isStuck(t, "Set(Cast li l? 1 (Box(Num 1)), Num 2)", 0, 2)
	isStuck(t, "Second(Cast li l? 1 (Pair(Num 1, Num 2)))", 0, 2)
	isStuck(t, "Second(Cast ,i? ,ii 1 (Pair(Num 1, Num 2)))", 0, 2)
	isStuck(t, "Head(Cast l? li 1 (List i (Num 1)))", 0, 2)
	isStuck(t, "Get(Cast x? xi 1 (Box(Num 1)))", 0, 2)
	isStuck(t, "Set(Cast xi x? 1 (Box(Num 1)), Num 1)", 0, 2)
	// Stuck in what goes in, and in what comes out: at the Call, the body's steps counted.
	isStuck(t, "Call(Cast >ii >?i 1 (Fn i i (Neg(Var 0))), Num 1)", 0, 1)
	isStuck(t, "Neg(Call(Cast >i? >ii 1 (Fn i ? (Neg(Num 5))), Num 1))", 1, 2)
	isStuck(t, "Neg(Call(Fn i i (Call(Cast >i? >ii 1 (Fn i ? (Neg(Num 5))), Var 0)), Num 1))", 3, 3)
}

// Deep inside the bodies of functions, and in what they wait for: the number is that of the node in the whole term.
func TestStuckInBodies(t *testing.T) {
	isStuck(t, "Call(Fn i i (Add(Var 0, Var 5)), Num 1)", 4, 1)
	isStuck(t, "Call(Fn i i (Add(Var 0, Truth 1)), Num 1)", 2, 2)
	isStuck(t, "Let(Fn ? i (Neg(Var 0)), Pair(Call(Var 0, Num 1), Call(Var 0, Truth 1)))", 2, 4)
	isStuck(t, "Let(Rec i i (If(Eq(Var 0, Num 0), Neg(Truth 1), Call(Var 1, Sub(Var 0, Num 1)))), Call(Var 0, Num 3))", 6, 1+3*4+3)
	isStuck(t, "Let(Rec i i (If(Eq(Var 0, Num 0), Truth 1, Neg(Call(Var 1, Sub(Var 0, Num 1))))), Call(Var 0, Num 2))", 7, 1+2*4+3)
	isStuck(t, "Call(Call(Fn i >ii (Fn i i (Join(Var 0, Var 1))), Num 1), Num 2)", 4, 3)
	isStuck(t, "Call(Fn i i (Cast i b 1 (Var 0)), Num 1)", 2, 1)
	isStuck(t, "Call(Fn i i (Let(Num 1, If(Var 0, Num 1, Num 2))), Num 1)", 4, 2)
	isStuck(t, "Call(Fn ? ? (Call(Var 0, Var 0)), Num 1)", 2, 2)
	isStuck(t, "List i (Num 1, Call(Fn xi i (Get(Var 0)), Str a), Num 2)", 4, 2)
	body := "Neg(Truth 1)"
	for depth := 1; depth < 200; depth++ {
		body = "Call(Fn i i (" + body + "), Num 1)"
		if depth%40 == 1 {
			isStuck(t, body, 2*depth, depth+1)
		}
	}
}

// What is not run is never stuck; a run knows no types.
func TestLooseRuns(t *testing.T) {
	givesLoose(t, "If(Truth 1, Num 1, Neg(Truth 1))", "num1", 1)
	givesLoose(t, "If(Truth 0, Var 7, Num 2)", "num2", 1)
	givesLoose(t, "If(Truth 1, Num 1, Str a)", "num1", 1)
	givesLoose(t, "If(Truth 0, Num 1, Str a)", `text"a"`, 1)
	givesLoose(t, "Fn i i (Var 7)", "fun", 0)
	givesLoose(t, "Fn z i (Num 1)", "fun", 0)
	givesLoose(t, "Call(Fn z _ (Var 0), Truth 1)", "truth1", 1)
	givesLoose(t, "Rec i i (Cast i b 0 (Var 9))", "fun", 0)
	givesLoose(t, "List z (Num 1, Str a)", `cons num1 cons text"a" empty`, 1)
	givesLoose(t, "Set(Box(Num 1), Str a)", `text"a"`, 2)
	givesLoose(t, "Let(Box(Num 1), Let(Set(Var 0, Str a), Get(Var 1)))", `text"a"`, 3)
	givesLoose(t, "Call(Fn i i (Num 1), Str a)", "num1", 1)
	givesLoose(t, "Call(Fn i i (Str a), Num 1)", `text"a"`, 1)
	givesLoose(t, "Cons(Num 1, Num 2)", "cons num1 num2", 1)
	givesLoose(t, "Head(Cons(Num 1, Num 2))", "num1", 2)
	givesLoose(t, "Tail(Cons(Num 1, Num 2))", "num2", 2)
	givesLoose(t, "Call(Fn ? ? (Call(Var 0, Num 3)), Fn i i (Var 0))", "num3", 2)
	givesLoose(t, "Truth 2", "truth1", 0)
	// A blame or a fault ends it as ever, at no node.
	givesLoose(t, "Pair(Head(List i ()), Var 0)", "fault34", 2)
	givesLoose(t, "Pair(Cast ? i 3 (Cast b ? 2 (Truth 1)), Neg(Str a))", "blame3", 0)
	// Stuck ahead of the others' blame.
	isStuck(t, "Pair(Neg(Str a), Cast ? i 3 (Cast b ? 2 (Truth 1)))", 1, 1)
	// Without types a function finds itself: it goes on till the fuel is used up.
	l := sample.Term("Let(Fn ? ? (Call(Var 0, Var 0)), Call(Var 0, Var 0))")
	for _, fuel := range []int{0, 1, 50, 2048} {
		want(t, "P16.2", l, ranLoose(l, fuel, 4), outcome{seen: "fuel", steps: fuel})
	}
}

// A run that ends with a value is not stuck, though a part of what is seen is.
func TestStuckParts(t *testing.T) {
	givesLoose(t, "Cast ,i? ,ii 1 (Pair(Num 1, Num 2))", "pair num1 fault32", 1)
	givesLoose(t, "Pair(Num 1, Cast l? li 1 (List ? (Num 1, Cast i ? 2 (Num 3))))", "pair num1 cons fault32 cons num3 empty", 2)
	givesLoose(t, "Cons(Num 1, Cast li l? 1 (Num 2))", "cons num1 num2", 1)
}
