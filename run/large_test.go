package run_test

import (
	"slices"
	"strings"
	"testing"

	"culprit/api"
	"culprit/code"
	"culprit/emit"
	"culprit/rough"
	"culprit/run"
	"culprit/sample"
)

// many: how many of something a large code has. Were each of them gone through for each of the others, the tests would not end.
const many = 1 << 17

func times(n int, l ...api.Ins) []api.Ins { return slices.Repeat(l, n) }

func one(op int8, a int) api.Ins { return api.Ins{Op: op, A: a} }

// program answers code with a program of these instructions, which answers a number.
func program(parts ...[]api.Ins) api.Code {
	return api.Code{Nums: []int64{7, -1}, Texts: []string{"a"}, Types: []string{"i"}, Functions: []api.Function{{Result: "i", Code: slices.Concat(parts...)}}}
}

var push, let, end, ret = one(code.Push, 0), one(code.Let, 0), one(code.End, 0), one(code.Ret, 0)

// wantBoth asks for the same of Run and Loose.
func wantBoth(t *testing.T, what string, c api.Code, fuel int, want string) {
	t.Helper()
	if got := told(run.Loose(c, fuel, 3)); got != want {
		t.Errorf("P21.2: %s: %.200s, not %s", what, got, want)
	}
	if got := toldRun(run.Run(c, fuel, 3)); got != want {
		t.Errorf("P21.1: %s: %.200s, not %s", what, got, want)
	}
}

func TestLongStacks(t *testing.T) {
	c := program(times(many, push), []api.Ins{{Op: code.List, A: many}, one(code.Part, int(api.Head)), ret})
	wantBoth(t, "a long list", c, 9, "num7 2 0 0")
	c.Functions[0].Code[many].A++
	if got := told(run.Loose(c, 9, 3)); got != "ErrStack 0 131072" {
		t.Errorf("P21.2: a list of one more: %s", got)
	}
}

// A long row, and places all over it; each place of it is found in few leaps.
func TestLongRows(t *testing.T) {
	all := times(many, push, let)
	all = append(all, one(code.Push, 1), let)
	for n := range many {
		all = append(all, one(code.Local, n*7%many), let, end)
	}
	c := program(all, []api.Ins{one(code.Local, many), one(code.Local, 0), one(code.Op, int(api.Sub)), ret})
	wantBoth(t, "a long row", c, 9, "num8 1 0 0")
	c.Functions[0].Code[len(all)].A = many + 1
	if got := told(run.Loose(c, 9, 3)); got != "ErrLocal 0 655362" {
		t.Errorf("P21.2: a place behind a long row: %s", got)
	}
}

// A long row that closures have, each of many; and as many calls as may be.
func TestManyClosures(t *testing.T) {
	all := append(times(many, push, let), one(code.Fn, 1))
	c := program(all, []api.Ins{push, one(code.Call, 0), ret})
	body := append(times(many, one(code.Fn, 1), let), one(code.Local, 2*many), ret)
	c.Functions = append(c.Functions, api.Function{Code: body})
	if got := told(run.Loose(c, 9, 3)); got != "num7 1 1 0" {
		t.Errorf("P21.2: many closures: %s", got)
	}
}

func TestManyFunctions(t *testing.T) {
	c := program([]api.Ins{one(code.Fn, many-1), push, one(code.Call, 0), ret})
	id := api.Function{Param: "i", Result: "i", Code: []api.Ins{one(code.Local, 0), ret}}
	c.Functions = append(c.Functions, slices.Repeat([]api.Function{id}, many-1)...)
	wantBoth(t, "many functions", c, 9, "num7 1 1 0")
	cast := rough.Read("i: push, cast i ?, cast ? i, ret").Casts
	c = program([]api.Ins{push, one(code.Cast, 2*many-2), one(code.Cast, 2*many-1), ret})
	c.Casts = slices.Repeat(cast, many)
	wantBoth(t, "many casts", c, 9, "num7 0 0 0")
	c = program([]api.Ins{one(code.Push, many-1), ret})
	c.Nums = append(make([]int64, many-1), 5)
	wantBoth(t, "many numbers", c, 9, "num5 0 0 0")
}

func TestLongPrograms(t *testing.T) {
	pairs := []string{"i", "?"}
	c := rough.Read("i: push, pend i ?, pend ? i, cast i ?, cast ? i, ret")
	cast := func(op int8, n int) []api.Ins { return []api.Ins{one(op, n%2), one(op, (n+1)%2)} }
	c.Functions[0].Code = slices.Concat([]api.Ins{push}, times(many, cast(code.Cast, slices.Index(pairs, "i"))...), []api.Ins{ret})
	wantBoth(t, "many casts of one value", c, 9, "num7 0 0 0")
	jumps := []api.Ins{push}
	for range many {
		jumps = append(jumps, one(code.Jump, len(jumps)+1))
	}
	wantBoth(t, "many jumps", program(append(jumps, ret)), 9, "num7 0 0 0")
	// As many pends as there may be in the tail of a function, which all become one.
	tail := rough.Read("i: fn 1, push, tail / i i: local, ret")
	tail.Casts = c.Casts
	own := tail.Functions[0].Code
	tail.Functions[0].Code = slices.Concat(own[:2], times(many, cast(code.Pend, slices.Index(pairs, "?"))...), own[2:])
	wantBoth(t, "many pends", tail, 9, "num7 1 0 1")
}

// As many steps as may be, and as many calls that wait.
func TestManySteps(t *testing.T) {
	wantBoth(t, "tails", codes()["endless"], api.MaxFuel, "fuel 2048 0 0")
	deep := rough.Read("i: rec 1, push, call, ret / i i; >ii: local 1, local, call, ret")
	wantBoth(t, "calls", deep, api.MaxFuel, "fuel 2048 2048 0")
	wrapped := rough.Read("?: rec 1, cast >?? >?i 3, push, cast i ?, call, cast i ?, ret / ? ?; >??: local 1, cast >?? >?i 4, local, call, cast i ?, ret")
	wantBoth(t, "calls of wrapped functions", wrapped, api.MaxFuel, "fuel 2048 2048 2048")
	add := []api.Ins{one(code.Push, 1), one(code.Op, int(api.Add))}
	sums := times(api.MaxFuel, add...)
	wantBoth(t, "sums", program([]api.Ins{push}, sums, []api.Ins{ret}), api.MaxFuel, "num-2041 2048 0 0")
	wantBoth(t, "sums and one more", program([]api.Ins{push}, sums, add, []api.Ins{ret}), api.MaxFuel, "fuel 2048 0 0")
}

// Values as deep as steps can make them, and wrapped by as high a coercion as there may be.
func TestDeepValues(t *testing.T) {
	deep := slices.Concat([]api.Ins{push}, times(api.MaxFuel-2, one(code.Box, 0)), []api.Ins{push, one(code.Pair, 0), one(code.Part, int(api.Second)), ret})
	if got := told(run.Loose(program(deep), api.MaxFuel, 3)); got != "num7 2048 0 0" {
		t.Errorf("P21.2: deep boxes: %s", got)
	}
	pairs := slices.Concat([]api.Ins{push}, times(api.MaxFuel, push, one(code.Pair, 0)), []api.Ins{ret})
	r, trap := run.Loose(program(pairs), api.MaxFuel, api.MaxObs)
	if got := sample.Told(r.Seen); trap != (api.Trap{}) || len(r.Seen) > api.MaxObs || !strings.HasPrefix(got, "pair pair pair") || !strings.HasSuffix(got, "num7 num7 num7") {
		t.Errorf("P21.2: deep pairs: %d nodes, %v", len(r.Seen), trap)
	}
	high := strings.Repeat("l", api.MaxType-1)
	term := sample.Of(api.Empty, sample.Cast(high+"?", high+"i", 2, sample.Cast(high+"i", high+"?", 1, sample.List(high[1:]+"i"))))
	c, e, _ := emit.Emit(term)
	if e != api.OK {
		t.Fatalf("the tests' own term: %d", e)
	}
	wantBoth(t, "high coercions", c, 9, "truth1 2 0 0")
}

// Calls of a function that is wrapped anew in each: it is wrapped once, so that the last call is as short as the first.
func TestWrappedOverAndOver(t *testing.T) {
	wide := strings.Repeat(",", 20)
	from, to := ">"+wide+strings.Repeat("i", 21)+"i", ">"+wide+strings.Repeat("?", 21)+"i"
	c := rough.Read("i: rec 1, fn 2, tail / " + from + " i; >" + from + "i: local 1, local, cast " + from + " " + to + ", cast " + to + " " + from + " 2, tail / " + from[1:len(from)-1] + " i: push, ret")
	wantBoth(t, "a function that is wrapped anew", c, api.MaxFuel, "fuel 2048 0 0")
}
