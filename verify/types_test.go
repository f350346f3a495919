package verify_test

import (
	"math"
	"testing"

	"culprit/api"
	"culprit/rough"
)

// The row and the stack ahead of each instruction.
func TestTypesOfEachPlace(t *testing.T) {
	c := rough.Read("i: truth, unless 4, push, jump 5, push, ret")
	for at, stack := range []string{"-", "b", "-", "i", "-", "i"} {
		wantTypes(t, c, 0, at, "-", stack)
	}
	c = rough.Read("?: push, let, fn 1, text, let, local 1, end, pend i ?, tail / i i; i: local 1, local, let, ret / b ?; t xi ,ib: local 2, push, set, let, local 4, cast ,ib ?, ret")
	for fn, states := range [][][2]string{
		{{"-", "-"}, {"-", "i"}, {"i", "-"}, {"i", ">ii"}, {"i", "t >ii"}, {"t i", ">ii"}, {"t i", "i >ii"}, {"i", "i >ii"}, {"i", "i >ii"}},
		{{"i i", "-"}, {"i i", "i"}, {"i i", "i i"}, {"i i i", "i"}},
		{{"b t xi ,ib", "-"}, {"b t xi ,ib", "xi"}, {"b t xi ,ib", "i xi"}, {"b t xi ,ib", "i"}, {"i b t xi ,ib", "-"}, {"i b t xi ,ib", ",ib"}, {"i b t xi ,ib", "?"}},
	} {
		for at, state := range states {
			wantTypes(t, c, fn, at, state[0], state[1])
		}
	}
}

// Places and functions that are not there.
func TestTypesOfNoPlace(t *testing.T) {
	c := rough.Read("i: push, ret / i i: local, ret / i i; b: local, let, local, ret")
	for _, fn := range []int{math.MinInt, -1 << 32, -2, -1, 3, 4, 1 << 32, 1<<32 + 1, math.MaxInt} {
		for _, at := range []int{-1, 0, 1, 2} {
			wantNoTypes(t, c, fn, at)
		}
	}
	for fn, length := range []int{2, 2, 4} {
		for _, at := range []int{math.MinInt, -1 << 32, -2, -1, length, length + 1, length + 2, 1 << 32, 1<<32 + 1, math.MaxInt} {
			wantNoTypes(t, c, fn, at)
		}
		for at := range length {
			row := []string{"-", "i", "i b"}[fn]
			if at > 1 {
				row = "i i b"
			}
			stack := []string{"-", "i", "-", "i"}[at]
			wantTypes(t, c, fn, at, row, stack)
		}
	}
	wantNoTypes(t, api.Code{}, 0, 0)
	wantNoTypes(t, api.Code{}, -1, 0)
	wantNoTypes(t, api.Code{}, 0, -1)
	wantNoTypes(t, api.Code{}, -1, -1)
}

// Of code that may not run nothing is told, wherever that is seen.
func TestTypesOfBadCode(t *testing.T) {
	for _, text := range []string{
		"i: push, ret, push / i i: truth, ret", "i: push, ret / i i: push, ret / i z: push, ret", "i: push, let, push, push, ret", "b: push, ret", "i: push, ret / i i: local, ret, ret / i i:",
	} {
		c := rough.Read(text)
		for fn := range c.Functions {
			for at := range 6 {
				wantNoTypes(t, c, fn, at)
			}
		}
	}
	c := rough.Read("i: push, ret")
	c.Types = []string{"z"}
	wantNoTypes(t, c, 0, 0)
	c = rough.Read("i: push, cast i i, ret")
	wantTypes(t, c, 0, 1, "-", "i")
	c.Casts[0].To = "b"
	wantNoTypes(t, c, 0, 0)
}

// The examples of the chapter.
func TestExamples(t *testing.T) {
	want(t,
		"i: push, ret", "good",
		"i: ret", "ErrStack 0 0",
		"i: push, push, ret", "ErrStack 0 2",
		"i: truth 1, ret", "ErrKind 0 1",
		"i: push", "ErrEnd 0 1",
		"i: truth 1, unless 3, push, ret", "ErrKind 0 2",
		"i: jump 0", "ErrEnd 0 0",
		"i: truth 1, unless 4, push, jump 5, push, ret", "good",
		"i: local, ret", "ErrLocal 0 0",
		"i: end", "ErrRow 0 0",
		"i: fn 1, ret / i i; i: local, ret", "ErrRow 0 0",
		"i: push, cast i ?, ret", "ErrKind 0 2",
		"?: push, cast i ?, ret", "good",
	)
	c := rough.Read("i: push, ret")
	c.Nums = nil
	wantCode(t, c, "ErrOp 0 0")
	wantCode(t, api.Code{}, "ErrFn 0 -1")
	wantCode(t, api.Code{Casts: []api.Waits{{From: "i", To: "b", Co: []api.Co{{Op: api.CoBase, Head: 'i'}}}}}, "ErrCast -1 0")
}
