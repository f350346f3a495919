package eval_test

import (
	"slices"
	"testing"

	"culprit/api"
	"culprit/eval"
	"culprit/sample"
)

// R5: what is handed in stays as it was, spare room too; R6: nothing is kept from one run to the next.
func TestTermsStayAsTheyWere(t *testing.T) {
	g := sample.Maker{Dice: 35}
	for range 1500 {
		l := g.Deal()
		if g.Coin() {
			l = g.Spoilt(l)
		}
		room := slices.Concat(sample.Witness("?"), l, sample.Witness(",bt"))
		before := slices.Clone(room)
		part := room[len(sample.Witness("?")):][:len(l)]
		first := ranLoose(part, 100, 6)
		whole := ran(part, 100, 6)
		ran(room, 100, 6)
		ranLoose(room, 100, 6)
		if again := ranLoose(part, 100, 6); again != first {
			t.Fatalf("R6: %s: %s, then %s", sample.Written(part), shown(first), shown(again))
		}
		if again := ran(part, 100, 6); again != whole {
			t.Fatalf("R6: %s: %s, then %s", sample.Written(part), shown(whole), shown(again))
		}
		if !slices.Equal(room, before) {
			t.Fatalf("R5: a term is changed: %s", sample.Written(before))
		}
	}
}

// R5: answers are new memory, spare room too, and do not hang on what was handed in.
func TestAnswersAreNew(t *testing.T) {
	for _, text := range []string{"Pair(Num 1, Str a)", "Head(List i ())", "Cast ? i 3 (Cast b ? 1 (Truth 1))", "Call(Rec i i (Call(Var 1, Var 0)), Num 1)"} {
		l := sample.Term(text)
		one, _ := eval.Run(l, 9, 5)
		other, _ := eval.Run(l, 9, 5)
		loose, _, _ := eval.Loose(l, 9, 5)
		want := sample.Told(one.Seen)
		clear(one.Seen[:cap(one.Seen)])
		if sample.Told(other.Seen) != want || sample.Told(loose.Seen) != want {
			t.Errorf("R5: two answers share memory: %s, %s; want %s", sample.Told(other.Seen), sample.Told(loose.Seen), want)
		}
		clear(l)
		if sample.Told(other.Seen) != want || sample.Told(loose.Seen) != want {
			t.Errorf("R5: an answer hangs on its argument: %s", text)
		}
	}
	// Of what is stuck too.
	l := sample.Term("Neg(Truth 1)")
	one, _, _ := eval.Loose(l, 9, 5)
	other, _, _ := eval.Loose(l, 9, 5)
	clear(one.Seen[:cap(one.Seen)])
	if sample.Told(other.Seen) != "fault32" {
		t.Errorf("R5: two answers share memory: %s", sample.Told(other.Seen))
	}
}

// R6: a box of one run is none of another's, and its cell is new each time.
func TestRunsKnowNothingOfEachOther(t *testing.T) {
	l := sample.Term("Let(Box(Num 1), Let(Set(Var 0, Add(Get(Var 0), Num 1)), Get(Var 1)))")
	for range 5 {
		want(t, "R6", l, ran(l, api.MaxFuel, 3), outcome{seen: "num2", steps: 5})
		want(t, "R6", l, ranLoose(l, 3, 3), outcome{seen: "fuel", steps: 3})
	}
}
