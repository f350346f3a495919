package emit_test

import (
	"math"
	"slices"
	"strings"
	"testing"
	"time"

	"culprit/api"
	"culprit/code"
	"culprit/core"
	"culprit/emit"
	"culprit/sample"
)

// What core.Check refuses, by each of its errors, with its node, and nothing beside it.
func TestWhatDoesNotCheck(t *testing.T) {
	for _, c := range []struct {
		l    []api.Node
		e    api.Errno
		node int
	}{
		{nil, api.ErrTree, 0},
		{[]api.Node{}, api.ErrTree, 0},
		{slices.Concat(sample.Num(1), sample.Num(2)), api.ErrTree, 1},
		{sample.Term("Pair(As(Num 1), Num 1)"), api.ErrTree, 1},
		{sample.Term("Neg(Num 1, Num 1)"), api.ErrTree, 0},
		{[]api.Node{{Kind: api.Add, Kids: 2}, {Kind: api.Num}}, api.ErrTree, 2},
		{[]api.Node{{Kind: api.List, Kids: -1, T: "i"}}, api.ErrTree, 0},
		{slices.Repeat(sample.Num(1), api.MaxTerm+1), api.ErrMany, 0},
		{sample.Nested(api.Node{Kind: api.Neg}, api.MaxHigh, sample.Num(1)), api.ErrDeep, api.MaxHigh},
		{sample.Of(api.Pair, sample.Num(1), sample.Str(strings.Repeat("q", api.MaxText+1))), api.ErrLong, 2},
		{sample.Term("Pair(Num 1, Truth 2)"), api.ErrNumber, 2},
		{sample.Term("Pair(Num 1, Cast i ? 0 (Num 1))"), api.ErrNumber, 2},
		{sample.Cast("i", "?", 1<<31, sample.Num(1)), api.ErrNumber, 0},
		{sample.Term("Let(Num 1, Var 1)"), api.ErrUnbound, 2},
		{sample.Term("Pair(Num 1, Fn z i (Num 1))"), api.ErrShape, 2},
		{sample.Term("Pair(Num 1, List ii ())"), api.ErrShape, 2},
		{sample.Fn(strings.Repeat("l", 62)+"i", "i", sample.Num(1)), api.ErrLarge, 0},
		{sample.Term("Pair(Num 1, Neg(Truth 1))"), api.ErrType, 2},
		{sample.Term("Pair(Num 1, Cast i b 1 (Num 1))"), api.ErrType, 2},
	} {
		wantRefused(t, c.l, c.e, c.node)
	}
	seen := map[api.Errno]bool{}
	for _, l := range append(sample.Refused(), sample.Num(1)) {
		_, e, node := core.Check(l)
		if seen[e] = true; e != api.OK {
			wantRefused(t, l, e, node)
		}
	}
	if len(seen) != 10 { // OK, and the nine that chapter 10 names
		t.Errorf("the tests' own terms are refused by %v", seen)
	}
	// What does not check and would have too much code does not check.
	l := sample.List("i", slices.Repeat([][]api.Node{sample.Num(3)}, api.MaxTerm-1)...)
	l[len(l)-1] = api.Node{Kind: api.Str}
	wantRefused(t, l, api.ErrType, 0)
}

// wantSize asks for code of so many instructions.
func wantSize(t *testing.T, what string, l []api.Node, size int) {
	t.Helper()
	if _, e, _ := core.Check(l); e != api.OK {
		t.Fatalf("the tests' own term %s: %d", what, e)
	}
	if size > api.MaxCode {
		wantRefused(t, l, api.ErrMany, 0)
		return
	}
	c, e, node := emit.Emit(l)
	if got := code.Size(c); e != api.OK || node != 0 || got != size {
		t.Errorf("P19.1: %s: %d at %d, %d instructions; not %d", what, e, node, got, size)
	}
}

// negs answers so many Negs around a number.
func negs(times int, l []api.Node) []api.Node {
	return sample.Nested(api.Node{Kind: api.Neg}, times, l)
}

// branches answers choices in choices, the last of them over leaves, the first of which is another one.
func branches(deep int, first, leaf []api.Node) []api.Node {
	if deep == 0 {
		return first
	}
	return sample.Of(api.If, sample.Truth(1), branches(deep-1, first, leaf), branches(deep-1, leaf, leaf))
}

// Code of MaxCode instructions, and of one more: by numbers, functions, Lets, choices, casts that wait in each arm.
func TestMaxCode(t *testing.T) {
	for more := range 3 {
		size := api.MaxCode - 1 + more
		// So many numbers, list, ret.
		if size-2 < api.MaxTerm {
			wantSize(t, "numbers", sample.List("i", slices.Repeat([][]api.Node{sample.Num(3)}, size-2)...), size)
		}
		// fn, local, ret of each; list, boxes, ret.
		functions := sample.List(">ii", slices.Repeat([][]api.Node{sample.Fn("i", "i", sample.Var(0))}, 5400)...)
		wantSize(t, "functions", sample.Nested(api.Node{Kind: api.Box}, 10, sample.Of(api.Pair, functions, negs(size-16200-14, sample.Num(1)))), size)
		// push, let, push, end of each; list, boxes, ret.
		lets := sample.List("i", slices.Repeat([][]api.Node{sample.Of(api.Let, sample.Num(1), sample.Num(2))}, 4000)...)
		wantSize(t, "Lets", sample.Of(api.Pair, lets, negs(size-16000-4, sample.Num(1))), size)
		// 5 of each choice that is not in the tail.
		choices := sample.List("i", slices.Repeat([][]api.Node{sample.Of(api.If, sample.Truth(1), sample.Num(1), sample.Num(2))}, 3200)...)
		wantSize(t, "choices", sample.Of(api.Pair, choices, negs(size-16000-4, sample.Num(1))), size)
		// 2 of each choice of the tail, a number, 508 casts and ret of each arm.
		i := sample.Nested(api.Node{Kind: api.Cast, T: "i", U: "i", N: 1}, 508, branches(5, negs(size-16382, sample.Num(1)), sample.Num(1)))
		if size >= 16382 {
			wantSize(t, "casts", i, size)
		}
		// Likewise of arms that call: three instructions, and 506 that pend.
		call := sample.Of(api.Call, sample.Var(0), sample.Num(1))
		first := sample.Of(api.Call, sample.Var(0), negs(size-16382, sample.Num(1)))
		p := sample.Nested(api.Node{Kind: api.Cast, T: "i", U: "i", N: 1}, 507, branches(5, first, call))
		wantSize(t, "casts that wait for calls", sample.Fn(">ii", "i", p), size-16382+32*(507+3+1)+31*2+2)
	}
	// As large as terms may be, and by branches far larger.
	wantSize(t, "numbers", sample.List("i", slices.Repeat([][]api.Node{sample.Num(3)}, api.MaxTerm-1)...), api.MaxTerm+1)
	arms := branches(11, sample.Num(1), sample.Num(1))
	wantSize(t, "casts", sample.Nested(api.Node{Kind: api.Cast, T: "i", U: "i", N: 1}, 1000, arms), 2048*1002+2*2047)
	wantSize(t, "casts", sample.Nested(api.Node{Kind: api.Cast, T: "i", U: "i", N: 1}, 1, arms), 2048*3+2*2047)
}

// boxed answers a number in so many boxes, cast to the same of ?, in a pair with a list that is so long that there are so many instructions.
func boxed(boxes, size int) []api.Node {
	of := strings.Repeat("x", boxes)
	cast := sample.Cast(of+"i", of+"?", 1, sample.Nested(api.Node{Kind: api.Box}, boxes, sample.Num(1)))
	return sample.Of(api.Pair, cast, sample.List("i", slices.Repeat([][]api.Node{sample.Num(3)}, size-boxes-5)...))
}

// A coercion that would be larger than memory is not made for code that is too long; nor else, beyond the document's bound.
func TestLargeCoercions(t *testing.T) {
	begin := time.Now()
	for _, boxes := range []int{1, 10, 20, 24, 26, 28, 30, 40, 60} {
		wantSize(t, "boxes", boxed(boxes, api.MaxCode+1), api.MaxCode+1)
	}
	wantRefused(t, boxed(60, 100), api.ErrMany, 0)
	wantSize(t, "boxes", boxed(10, api.MaxCode), api.MaxCode)
	// Many casts by one large coercion, under labels of their own: it stands once.
	of := strings.Repeat("x", 16) + "i"
	l := sample.Nested(api.Node{Kind: api.Box}, 16, sample.Num(1))
	for i := range 900 {
		l = sample.Cast(of, of, int64(1+i), l)
	}
	if c := good(t, l); len(c.Casts) != 1 || len(c.Casts[0].Co) != 1<<17-1 {
		t.Errorf("P19.2: %d casts", len(c.Casts))
	}
	if d := time.Since(begin); d > 5*time.Second {
		t.Errorf("large coercions take %s", d)
	}
}

// Whatever nodes are handed in (R1).
func TestAnyNodes(t *testing.T) {
	var d sample.Dice = 196
	texts := []string{"", "i", "?", ">ii", "z", "\xff", "l?", strings.Repeat("l", 64), strings.Repeat("l", 63) + "i", ",i?"}
	counts := map[api.Errno]int{}
	for range 60000 {
		var l []api.Node
		for range d.Below(6) {
			n := api.Node{Kind: int8(d.Below(32)), Kids: d.Below(4), N: []int64{0, 1, 2, -1, math.MaxInt64, math.MinInt64}[d.Below(6)], S: texts[d.Below(len(texts))], T: texts[d.Below(len(texts))], U: texts[d.Below(len(texts))]}
			if d.Below(50) == 0 {
				n.Kids = []int{-1, math.MaxInt, math.MinInt}[d.Below(3)]
			}
			if n.Kind < 5 {
				n.Kids = 0
			}
			l = append(l, n)
		}
		_, e, node := core.Check(l)
		if counts[e]++; e != api.OK {
			wantRefused(t, l, e, node)
		} else {
			good(t, l)
		}
	}
	if counts[api.OK] < 100 || counts[api.ErrTree] < 1000 || counts[api.ErrUnbound] < 100 {
		t.Errorf("too few kinds of lists: %v", counts)
	}
}
