package eval_test

import (
	"fmt"
	"strings"
	"testing"

	"culprit/api"
)

// asked: of each kind with kids that are all run ahead of its step, which types they may have in a term that checks.
func asked() map[string]string {
	return map[string]string{
		"Call": ">ii i", "Add": "i i", "Sub": "i i", "Mul": "i i", "Join": "t t", "Eq": "i i", "Less": "i i", "Neg": "i", "Size": "t",
		"Pair": "i t", "First": ",it", "Second": ",it", "List": "i i i", "Head": "li", "Tail": "li", "Empty": "li", "Cons": "i li", "Box": "i", "Get": "xi", "Set": "xi i",
	}
}

// with: a node of that kind, whose kids are laid as they are asked.
func with(kind string, kids ...[]api.Node) []api.Node {
	return node(api.Node{Kind: kindOf(kind), T: "i"}, kids...)
}

// counted: a term of a type, and its steps.
func counted(t string) ([]api.Node, int) {
	steps := 1 + strings.Count(t, ",")
	if t[0] == 'x' {
		steps++
	}
	full := witness(t)
	if t[0] == 'l' {
		full, steps = list(t[1:], witness(t[1:])), steps+1
	}
	return of(api.Let, of(api.Neg, num(1)), full), steps
}

// blaming: a term of a type which blames a label, behind one step.
func blaming(t string, label int64) []api.Node {
	return cast("?", t, label, cast("b", "?", 99, of(api.Eq, num(1), num(1))))
}

// Kids are run from the left, all ahead of the node's own step.
func TestOrderOfKids(t *testing.T) {
	for kind, types := range asked() {
		types := strings.Fields(types)
		for first := range types {
			var kids [][]api.Node
			ahead := 0
			for i, typ := range types {
				l, steps := counted(typ)
				if i < first {
					ahead += steps
				} else {
					l = blaming(typ, int64(10+i))
				}
				kids = append(kids, l)
			}
			wantRun(t, with(kind, kids...), 9, fmt.Sprintf("blame%d", 10+first), ahead+1)
		}
		// All of them are there: its own step is the next one.
		var kids [][]api.Node
		sum := 0
		for _, typ := range types {
			l, steps := counted(typ)
			kids, sum = append(kids, l), sum+steps
		}
		l := with(kind, kids...)
		want(t, "P16.1", l, ran(l, sum, 9), outcome{seen: "fuel", steps: sum})
		own := sum + 1
		if got := ran(l, own, 9); got.steps != own || strings.HasPrefix(got.seen, "fuel") || strings.HasPrefix(got.seen, "fault") || strings.HasPrefix(got.seen, "blame") || got.e != api.OK {
			t.Errorf("P16.1: %s: %s; want a value in %d steps", written(l), shown(got), own)
		}
	}
}

// The kids of the others.
func TestOrderOfOtherKids(t *testing.T) {
	wantRun(t, of(api.Let, blaming("i", 10), blaming("i", 11)), 9, "blame10", 1)
	one, _ := counted("i")
	wantRun(t, of(api.Let, one, blaming("i", 11)), 9, "blame11", 2)
	wantRun(t, of(api.If, cast("?", "b", 10, cast("i", "?", 99, of(api.Neg, num(1)))), blaming("i", 11), blaming("i", 12)), 9, "blame10", 1)
	condition, steps := counted("b")
	wantRun(t, of(api.If, condition, blaming("i", 11), blaming("i", 12)), 9, "blame11", steps+2)
	wantRun(t, cast("?", "i", 10, cast("t", "?", 99, blaming("t", 11))), 9, "blame11", 1)
}

// What a node does itself comes behind its step: one step fewer, and the fuel is used up ahead of it.
func TestStepAheadOfWhatIsDone(t *testing.T) {
	for _, c := range []struct {
		text, seen string
		steps      int
	}{
		{"Head(List i ())", "fault34", 2},
		{"Tail(List i ())", "fault34", 2},
		{"First(Cast ,?? ,bt 3 (Pair(Cast i ? 4 (Num 1), Cast t ? 5 (Str a))))", "blame3", 2},
		{"Second(Cast ,?? ,ii 3 (Pair(Cast i ? 4 (Num 1), Cast t ? 5 (Str a))))", "blame3", 2},
		{"Head(Cast l? lb 3 (List ? (Cast i ? 4 (Num 1))))", "blame3", 2},
		{"Get(Cast x? xb 3 (Box(Cast i ? 4 (Num 1))))", "blame3", 2},
		{"Set(Cast xi x? 3 (Box(Num 1)), Cast b ? 4 (Truth 1))", "blame-3", 2},
		{"Call(Cast >ii >?i 3 (Fn i i (Neg(Var 0))), Cast b ? 4 (Truth 1))", "blame-3", 1},
		{"Call(Cast >i? >ii 3 (Fn i ? (Cast b ? 4 (Truth 1))), Num 1)", "blame3", 1},
	} {
		gives(t, c.text, c.seen, c.steps)
	}
	left, first := textOf(4096)
	right, second := textOf(65)
	wantRun(t, of(api.Join, left, right), 9, "fault35", first+second+1)
}

// What is set is seen by what is run behind it, and by nothing ahead of it.
func TestOrderOfBoxes(t *testing.T) {
	set := func(n int64) []api.Node { return of(api.Set, name(0), of(api.Add, of(api.Get, name(0)), num(n))) }
	get := of(api.Get, name(0))
	within := func(l []api.Node) []api.Node { return of(api.Let, of(api.Box, num(1)), l) }
	wantRun(t, within(list("i", get, set(1), get, set(10), get)), 9, "cons num1 cons num2 cons num2 cons num12 cons num12 empty", 11)
	wantRun(t, within(of(api.Sub, set(1), get)), 9, "num0", 6)
	wantRun(t, within(of(api.Sub, get, set(1))), 9, "num-1", 6)
	wantRun(t, within(of(api.Pair, of(api.Cons, set(1), list("i", get)), get)), 9, "pair cons num2 cons num2 empty num2", 9)
	wantRun(t, within(of(api.Call, of(api.Let, set(1), fn("i", "i", of(api.Mul, name(0), of(api.Get, name(2))))), set(10))), 9, "num144", 10)
	// The box ahead of what is set.
	inner := of(api.Let, set(1), name(1))
	wantRun(t, within(of(api.Let, of(api.Set, inner, of(api.Add, num(100), get)), of(api.Pair, name(0), of(api.Get, name(1))))), 9, "pair num102 num102", 9)
}
