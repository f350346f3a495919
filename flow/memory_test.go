package flow_test

import (
	"slices"
	"testing"

	"culprit/api"
	"culprit/flow"
	"culprit/sample"
)

// R5: what is handed in stays as it was, spare room too; R6: nothing is kept from one run to the next.
func TestTermsStayAsTheyWere(t *testing.T) {
	g := sample.Maker{Dice: 49}
	for range 1500 {
		l := g.Deal()
		room := slices.Concat(sample.Witness("?"), l, sample.Witness(",bt"))
		before := slices.Clone(room)
		part := room[len(sample.Witness("?")):][:len(l)]
		first := ran(part, 100, 6)
		ran(room, 100, 6)
		ran(g.Deal(), 100, 6)
		if again := ran(part, 100, 6); again != first {
			t.Fatalf("R6: %s: %s, then %s", sample.Written(part), first, again)
		}
		if !slices.Equal(room, before) {
			t.Fatalf("R5: a term is changed: %s", sample.Written(before))
		}
	}
}

// R5: answers are new memory, spare room too, and do not hang on what was handed in.
func TestAnswersAreNew(t *testing.T) {
	for _, text := range []string{"Pair(Num 1, Str a)", "Head(List i ())", "Cast ? i 3 (Cast b ? 1 (Truth 1))", "Call(Rec i i (Call(Var 1, Var 0)), Num 1)", "Cast ,?? ,ib 2 (Cast ,ii ,?? 1 (Pair(Num 1, Num 2)))"} {
		l := sample.Term(text)
		one, _ := flow.Run(l, 9, 5)
		other, _ := flow.Run(l, 9, 5)
		seen := sample.Told(one.Seen)
		clear(one.Seen[:cap(one.Seen)])
		if got := sample.Told(other.Seen); got != seen {
			t.Errorf("R5: two answers share memory: %s; want %s", got, seen)
		}
		clear(l)
		if got := sample.Told(other.Seen); got != seen {
			t.Errorf("R5: an answer hangs on its argument: %s", text)
		}
	}
}

// R6: the boxes of a run are of that run alone, each new; and it has one heap, for boxes of all types and wrappers.
func TestRunsKnowNothingOfEachOther(t *testing.T) {
	l := sample.Term("Let(Box(Num 1), Let(Set(Cast xi x? 1 (Var 0), Cast i ? 2 (Add(Get(Var 0), Num 1))), Get(Cast x? xi 3 (Cast xi x? 4 (Var 1)))))")
	for range 5 {
		want(t, "R6", l, ran(l, api.MaxFuel, 3), outcome{seen: "num2", steps: 5})
		want(t, "R6", l, ran(l, 3, 3), outcome{seen: "fuel", steps: 3})
	}
	gives(t, "Let(Box(Cast i ? 9 (Num 1)), Let(Cast x? xi 1 (Var 0), Let(Cast x? ? 2 (Var 1), Let(Set(Var 1, Num 5), Let(Set(Cast ? x? 3 (Var 1), Cast b ? 4 (Truth 1)), List ? (Get(Var 4), Cast i ? 5 (Get(Var 3))))))))", "blame1", 5)
	gives(t, "Let(Box(Cast i ? 9 (Num 1)), Let(Cast x? xi 1 (Var 0), Let(Cast x? ? 2 (Var 1), Let(Set(Var 1, Num 5), Let(Set(Cast ? x? 3 (Var 1), Cast i ? 4 (Num 6)), List ? (Get(Var 4), Cast i ? 5 (Get(Var 3))))))))", "cons num6 cons num6 empty", 6)
}
