package run_test

import (
	"reflect"
	"slices"
	"testing"

	"culprit/api"
	"culprit/emit"
	"culprit/rough"
	"culprit/run"
	"culprit/sample"
)

// R5: code stays as it was, its spare room too; R6: the same is answered each time, whatever was run between.
func TestCodeStays(t *testing.T) {
	g := rough.Maker{}
	g.Dice = 218
	for range 3000 {
		c := g.Deal(g.Below(25))
		if g.Below(3) == 0 {
			c = g.Spoilt(c)
		}
		c = rough.Roomy(c)
		before := rough.Kept(c)
		fuel, depth := g.Below(60), g.Below(6)
		r, e := run.Run(c, fuel, depth)
		s, trap := run.Loose(c, fuel, depth)
		other := rough.Maker{}
		other.Dice = g.Dice
		run.Run(other.Deal(9), 40, 3)
		run.Loose(other.Spoilt(other.Deal(9)), 40, 3)
		if again, x := run.Run(c, fuel, depth); x != e || !reflect.DeepEqual(again, r) {
			t.Fatalf("R6: %s: %s, then %s", rough.Written(c), toldRun(r, e), toldRun(again, x))
		}
		if again, x := run.Loose(c, fuel, depth); x != trap || !reflect.DeepEqual(again, s) {
			t.Fatalf("R6: %s: %s, then %s", rough.Written(c), told(s, trap), told(again, x))
		}
		if !reflect.DeepEqual(rough.Kept(c), before) {
			t.Fatalf("R5: %s: it is changed", rough.Written(c))
		}
	}
}

// R5: what is answered is memory of its own.
func TestAnswersAreNew(t *testing.T) {
	c, _, _ := emit.Emit(sample.Term("Pair(Num 1, Cast ,?? ,ib 2 (Cast ,ii ,?? 1 (Pair(Num 1, Num 2))))"))
	want := "pair num1 pair num1 blame2"
	ask := []func() []api.Obs{
		func() []api.Obs { r, _ := run.Run(c, 9, 9); return r.Seen },
		func() []api.Obs { r, _ := run.Loose(c, 9, 9); return r.Seen },
	}
	for _, one := range ask {
		for _, other := range ask {
			first, second := one(), other()
			clear(first[:cap(first)])
			if got := sample.Told(second); got != want {
				t.Errorf("R5: what is done to one answer is seen in another: %s", got)
			}
			if got := sample.Told(one()); got != want {
				t.Errorf("R5: what is done to an answer is seen in a later one: %s", got)
			}
		}
	}
	r, _ := run.Run(c, 9, 9)
	kept := slices.Clone(r.Seen)
	for n := range c.Nums {
		c.Nums[n] = 99
	}
	for n := range c.Casts {
		clear(c.Casts[n].Co)
	}
	if !slices.Equal(r.Seen, kept) {
		t.Errorf("R5: what is done to the code is seen in an answer: %s", sample.Told(r.Seen))
	}
}

// R6: each run has boxes of its own, though what it does is done to the same code.
func TestRunsKnowNothingOfEachOther(t *testing.T) {
	c := rough.Read("i: push, box, let, local, get, let, local 1, push 1, set, let, local 1, ret")
	for range 3 {
		if got := toldRun(run.Run(c, 9, 4)); got != "num7 3 0 0" {
			t.Errorf("R6: %s", got)
		}
		if got := told(run.Loose(c, 9, 4)); got != "num7 3 0 0" {
			t.Errorf("R6: %s", got)
		}
		run.Run(c, 2, 4)
	}
}

// R4: lists that are nil, and such without elements.
func TestNoLists(t *testing.T) {
	c := rough.Read("i: push, let, fn 1, local, call, ret / i i; i: local, ret")
	for _, empty := range [][]string{nil, {}} {
		c.Types, c.Functions[0].Env, c.Texts = empty, empty, empty
		c.Casts = []api.Waits{}[:len(empty)]
		wantCode(t, c, 4, "num7 1 1 0")
	}
	for _, none := range [][]api.Ins{nil, {}} {
		c.Functions[1].Code = none
		wantCode(t, c, 4, "ErrEnd 1 0")
	}
	for _, none := range [][]api.Function{nil, {}} {
		if got := told(run.Loose(api.Code{Functions: none}, 4, 4)); got != "ErrFn 0 -1" {
			t.Errorf("R4: %s", got)
		}
	}
	for _, none := range [][]api.Co{nil, {}} {
		c := rough.Read("i: push, cast 0, ret")
		c.Casts = []api.Waits{{From: "i", To: "i", Co: none}}
		wantCode(t, c, 4, "ErrCast 0 1")
	}
}
