package run_test

import (
	"fmt"
	"testing"

	"culprit/api"
	"culprit/emit"
	"culprit/rough"
	"culprit/run"
	"culprit/sample"
)

// What a coercion that is laid to wait does there: nothing of an identity; a new frame, where none waits; else both are one.
func TestPend(t *testing.T) {
	for _, one := range []struct {
		text, want string
		coercions  []string
	}{
		// An identity, of each shape: no frame.
		{"i: push, pend 0, ret", "num7 0 0 0", []string{"i"}},
		{"i: push, pend 0, ret", "num7 0 0 0", []string{"?"}},
		{"i: push, pend 0, pend 1, ret", "num7 0 0 0", []string{">,?txb,ii", "xll?l?"}},
		// None waits.
		{"?: push, pend 0, ret", "num7 0 0 1", []string{"!i"}},
		{"i: push, cast 0, pend 1, ret", "num7 0 0 1", []string{"!i", "7?i"}},
		{"i: push, cast 0, pend 1, ret", "blame7 0 0 1", []string{"!i", "7?b"}},
		{"i: push, pend 0, ret", "ErrKind 0 2", []string{"7?i"}},
		// One waits: that which is laid later is done first.
		{"i: push, pend 1, pend 0, ret", "blame7 0 0 1", []string{"!i", "7?b"}},
		{"i: push, pend 1, pend 0, ret", "num7 0 0 1", []string{"!i", "7?i"}},
		{"i: push, pend 0, pend 1, ret", "ErrKind 0 3", []string{"!i", "7?i"}},
		{"?: push, cast 0, pend 0, pend 1, ret", "num7 0 0 1", []string{"!i", "7?i"}},
		{"b: truth, cast 2, pend 0, pend 1, ret", "blame7 0 0 1", []string{"!i", "7?i", "!b"}},
		{"b: push, cast 0, pend 2, pend 0, pend 1, ret", "blame8 0 0 1", []string{"!i", "7?i", "8?b"}},
		{"b: push, pend 2, pend 0, pend 1, pend 0, ret", "blame8 0 0 1", []string{"!i", "7?i", "8?b"}},
		// Merged into an identity it goes; another one is a frame again.
		{"i: push, pend 1, pend 0, pend 1, pend 0, ret", "num7 0 0 1", []string{"!i", "7?i"}},
		{"b: push, pend 2, pend 0, pend 2, ret", "ErrCast 0 3", []string{"!i", "7?i", "8?b"}},
		{"i: list 0 i, pend 1, pend 0, ret", "empty 1 0 1", []string{"l!i", "l7?i"}},
		// An identity is nothing, whether it meets what waits or not.
		{"i: push, pend 0, pend 1, ret", "num7 0 0 1", []string{"!i", "t"}},
		// What fails, fails whatever stands behind it.
		{"i: push, pend 0, pend 1, ret", "blame5 0 0 1", []string{"7?t", "#5ib"}},
		{"i: push, cast 0, pend 1, ret", "blame5 0 0 1", []string{"!i", "7?#5ib"}},
		{"i: push, cast 0, pend 1, ret", "blame7 0 0 1", []string{"!i", "7?#5tb"}},
	} {
		wantCoercing(t, one.text, one.want, one.coercions...)
	}
}

// Behind a return; behind the frame of another call; one applied at each ret, at the same step.
func TestPendBehindReturns(t *testing.T) {
	for _, one := range []struct {
		text, want string
		coercions  []string
	}{
		{"?: fn 1, push, call, ret / i ?: local, pend 0, ret", "num7 1 1 1", []string{"!i"}},
		{"b: fn 1, push, call, ret / i b: local, pend 1, pend 0, ret", "blame7 1 1 1", []string{"!i", "7?b"}},
		{"b: fn 1, push, call, ret / i b: local, pend 1, pend 0, ret", "num7 1 1 1", []string{"!i", "7?i"}},
		// One above the return, one below it: they are two, and each is done at its own ret.
		{"i: pend 1, fn 1, push, call, ret / i ?: local, pend 0, ret", "num7 1 1 2", []string{"!i", "7?i"}},
		{"b: pend 1, fn 1, push, call, ret / i ?: local, pend 0, ret", "blame7 1 1 2", []string{"!i", "7?b"}},
		{"i: pend 1, fn 1, push, call, ret / i ?: local, pend 0, ret", "ErrKind 1 2", []string{"7?i", "7?i"}},
		// Laid ahead of a call they wait behind its return; ahead of a tail they are next to each other.
		{"i: fn 1, push, pend 1, call, ret / i ?: local, pend 0, ret", "num7 1 1 2", []string{"!i", "7?i"}},
		{"i: fn 1, push, pend 1, tail / i ?: local, pend 0, ret", "num7 1 0 1", []string{"!i", "7?i"}},
		{"b: fn 1, push, pend 1, tail / i ?: local, pend 0, ret", "blame7 1 0 1", []string{"!i", "7?b"}},
		{"b: fn 1, push, pend 1, tail / i ?: fn 2, local, pend 0, tail / i i; i: local, ret", "blame7 2 0 1", []string{"!i", "7?b"}},
		// The greatest numbers, not those at the end.
		{"i: fn 1, push, call, let, fn 1, push, call, ret / i ?: fn 2, local, pend 0, call, pend 1, ret / i i; i: local, ret", "num7 4 2 1", []string{"!i", "i"}},
		{"i: fn 1, push, pend 0, call, pend 1, ret / i i: local, ret", "num7 1 1 1", []string{"7?i", "!i"}},
	} {
		wantCoercing(t, one.text, one.want, one.coercions...)
	}
}

// Calls of functions under wrappers: what is handed in is coerced ahead of the return, the answer's coercion waits behind it.
func TestWrappedCalls(t *testing.T) {
	want(t,
		"?: fn 1, cast >ii >??, push, cast i ?, call, ret / i i: local, ret", "num7 1 1 1",
		"?: fn 1, cast >ii >?? 3, truth, cast b ?, call, ret / i i: local, ret", "blame-3 1 0 0",
		"?: fn 1, cast >ii >i?, push, call, ret / i i: local, ret", "num7 1 1 1",
		// The argument's alone: nothing waits.
		"i: fn 1, cast >ii >?i, push, cast i ?, call, ret / i i: local, ret", "num7 1 1 0",
		"i: fn 1, cast >ii >?i 3, truth, cast b ?, call, ret / i i: local, ret", "blame-3 1 0 0",
		// The answer's: the one who gave the function is to blame, when it has answered.
		"b: fn 1, cast >ii >i?, cast >i? >ib 4, push, call, ret / i i: local, push, op Add, ret", "blame4 2 1 1",
		"i: fn 1, cast >i? >ii 4, push, call, ret / i ?: truth, cast b ?, ret", "blame4 1 1 1",
		"i: fn 1, cast >i? >ii 4, push, call, ret / i ?: local, cast i ?, ret", "num7 1 1 1",
		// Both at one time, and one of them first.
		"b: fn 1, cast >ii >?? 3, cast >?? >bb 4, truth, call, ret / i i: local, ret", "blame-3 1 0 0",
		"b: fn 1, cast >ii >?? 3, cast >?? >ib 4, push, call, ret / i i: local, ret", "blame4 1 1 1",
		// Under a tag: it is taken off by a cast.
		"?: fn 1, cast >ii ?, cast ? >?? 2, push, cast i ?, call, ret / i i: local, ret", "num7 1 1 1",
		// A rec under a wrapper calls itself bare.
		"?: rec 1, cast >ii >??, push, cast i ?, call, ret / i i; >ii: local, push 1, op Less, unless 6, local, ret, local 1, local, push, op Sub, push, op Sub, tail", "num-7 8 1 1",
		// A pair's halves, functions both, come out of it wrapped.
		"?: fn 1, fn 1, pair, cast ,>ii>ii ,>i??, part First, push, call, ret / i i: local, ret", "num7 3 1 1",
		"i: fn 1, fn 1, pair, cast ,>ii>ii ,>i??, part First, cast >i? >ii 5, push, call, ret / i i: local, ret", "num7 3 1 0",
		// The body may do what it likes with what it was handed: a fault comes when it comes.
		"?: fn 1, cast >lii >??, list 0 i, cast li ?, call, ret / li i: local, part Head, ret", "fault34 3 1 1",
		"?: fn 1, cast >lii >?? 3, list 0 i, cast li ?, call, ret / li i: local, part Head, ret", "fault34 3 1 1",
	)
}

// Tails of functions under wrappers: the answer's coercion is merged with that which waits.
func TestWrappedTails(t *testing.T) {
	want(t,
		"?: fn 1, cast >ii >??, push, cast i ?, tail / i i: local, ret", "num7 1 0 1",
		"?: fn 1, cast >ii >?? 3, truth, cast b ?, tail / i i: local, ret", "blame-3 1 0 0",
		"i: fn 1, cast >ii >i?, push, pend ? i, tail / i i: local, ret", "num7 1 0 1",
		"b: fn 1, cast >ii >i?, push, pend ? b 2, tail / i i: local, push, op Add, ret", "blame2 2 0 1",
		"b: fn 1, cast >ii >i?, push, pend ? b 2, pend b b, tail / i i: local, ret", "blame2 1 0 1",
		// Two functions, one behind the other: what waits is one; and that of the second is done first.
		"?: fn 1, cast >ii >i?, push, tail / i i: fn 2, cast >i? >ii 5, local, tail / i ?; i: local, cast i ?, ret", "num7 2 0 1",
		"?: fn 1, cast >ib >i?, push, tail / i b: fn 2, cast >i? >ib 5, local, tail / i ?; i: local, cast i ?, ret", "blame5 2 0 1",
		// One is merged into an identity, and the next one is a frame again.
		"i: fn 1, cast >i? >ii, push, tail / i ?: fn 2, cast >ii >i?, local, tail / i i; i: fn 3, cast >i? >ii 5, local, tail / i ?; i i: local, cast i ?, ret", "num7 3 0 1",
	)
}

// The wrapper's coercion does not meet the one that waits: by the place of the tail; but not, if what is handed in is refused ahead of it.
func TestWhatDoesNotMeet(t *testing.T) {
	for _, one := range []struct {
		text, want string
		coercions  []string
	}{
		{"i: push, pend 0, pend 1, ret", "ErrCast 0 2", []string{"!i", "!i"}},
		{"i: push, pend 0, pend 1, ret", "ErrCast 0 2", []string{"7?i", "7?i"}},
		{"i: push, pend 0, pend 1, ret", "ErrCast 0 2", []string{"!i", "!t"}},
		{"i: push, pend 0, pend 1, ret", "ErrCast 0 2", []string{"l!i", "x!i-7?i"}},
		{"i: push, pend 0, pend 1, ret", "ErrCast 0 2", []string{"l7?i", "7?i"}},
		{"i: push, pend 2, pend 1, pend 0, ret", "ErrCast 0 3", []string{"7?b", "!i", "7?t"}},
		{"i: fn 1, push, tail / i i: local, pend 0, pend 1, ret", "ErrCast 1 2", []string{"!i", "!i"}},
		{"i: fn 1, push, call, ret / i i: local, pend 0, pend 1, ret", "ErrCast 1 2", []string{"!i", "!i"}},
		{"i: pend 0, fn 1, cast 1, push, tail / i i: local, ret", "ErrCast 0 4", []string{"!i", ">i!i"}},
		// Behind a return it is another frame, and need not meet it.
		{"i: pend 0, fn 1, cast 1, push, call, ret / i i: local, ret", "num7 1 1 2", []string{"!i", ">i!i"}},
		// Ahead of it: what is called is no function; what is handed in is blamed, or refused.
		{"i: pend 0, push, cast 1, push, tail / i i: local, ret", "ErrKind 0 4", []string{"!i", ">i!i"}},
		{"i: pend 0, fn 1, cast 1, push, tail / i i: local, ret", "ErrKind 0 4", []string{"!i", ">7?i!i"}},
		{"i: pend 0, fn 1, cast 1, truth, cast 2, tail / i i: local, ret", "blame-7 1 0 1", []string{"!i", ">-7?i!i", "!b"}},
		// A wrapper of another head: what is under it is no function.
		{"i: fn 1, cast 0, push, call, ret / i i: local, ret", "ErrKind 0 3", []string{"l!i"}},
		// A value that is wrapped already, by a coercion that does not meet the next one.
		{"i: fn 1, cast 0, cast 0, push, call, ret / i i: local, ret", "ErrKind 0 2", []string{">i!i"}},
		{"i: fn 1, cast 0, pend 0, ret / i i: local, ret", "ErrKind 0 3", []string{">i!i"}},
	} {
		wantCoercing(t, one.text, one.want, one.coercions...)
	}
}

// When a run ends by itself, at once or at its last ret: all that waits is done at that ret, one after the other, without a step.
func TestAllAtOneRet(t *testing.T) {
	c := rough.Read("?: fn 1, push, call, ret / i ?: local, pend i ?, ret")
	for fuel, want := range []string{"fuel 0 0 0", "num7 1 1 1", "num7 1 1 1"} {
		if got := told(run.Loose(c, fuel, 1)); got != want {
			t.Errorf("P21.2: fuel %d: %s, not %s", fuel, got, want)
		}
	}
}

// loop answers the code of a call of f(n) = if n < 1 then 0 else around(f(n - 1)).
func loop(t *testing.T, typ string, times int64, end []api.Node, around func(call []api.Node) []api.Node) api.Code {
	t.Helper()
	c, e, at := emit.Emit(sample.Of(api.Call, sample.UntilZero("i", typ, end, around), sample.Num(times)))
	if e != api.OK {
		t.Fatalf("the tests' own term: %d at %d", e, at)
	}
	return c
}

// W4: a loop of tail calls with casts around has as many frames at its end as at its beginning, however often it goes round; one without the tail has more each time.
func TestLoops(t *testing.T) {
	back := func(call []api.Node) []api.Node {
		return sample.Cast("?", "i", 2, sample.Cast("i", "?", 1, call))
	}
	many := func(call []api.Node) []api.Node {
		return sample.Cast("?", ",i?", 5, sample.Cast(",??", "?", 3, sample.Cast(",ii", ",??", 2, sample.Cast(",i?", ",ii", 1, call))))
	}
	pair := sample.Of(api.Pair, sample.Num(0), sample.Cast("i", "?", 9, sample.Num(0)))
	one := sample.Cast("i", "?", 9, sample.Num(0))
	short := func(call []api.Node) []api.Node {
		return sample.Cast("i", "?", 2, sample.Cast("?", "i", 1, call))
	}
	for _, times := range []int64{1, 2, 3, 10, 100, 500} {
		for what, l := range map[string]struct {
			code  api.Code
			casts int
		}{
			"there and back": {loop(t, "i", times, sample.Num(0), back), 1}, "many": {loop(t, ",i?", times, pair, many), 1}, "short": {loop(t, "?", times, one, short), 1},
		} {
			r, e := run.Run(l.code, api.MaxFuel, 4)
			if e != api.OK || r.Frames != 0 || r.Casts != l.casts || r.Seen[0].Kind == api.OFuel || r.Seen[0].Kind == api.OBlame {
				t.Errorf("W4: %s, %d times: %s", what, times, toldRun(r, e))
			}
		}
		deep := loop(t, "i", times, sample.Num(0), func(call []api.Node) []api.Node { return sample.Of(api.Neg, back(call)) })
		if r, e := run.Run(deep, api.MaxFuel, 4); e != api.OK || int64(r.Frames) != times || r.Casts != 0 {
			t.Errorf("W4: not in the tail, %d times: %s", times, toldRun(r, e))
		}
	}
}

// A function that goes over a border and back at each call is wrapped once at most: one coercion waits for its answer.
func TestWrappedAgain(t *testing.T) {
	// f(g, n) = if n < -1 then g(n) else f(g from >i? to >ii and back, n - 1), with a pair of both
	again := rough.Read("?: rec 1, fn 2, push, pair, tail / ,>i?i ?; >,>i?i?: local, part Second, push 1, op Less, unless 10, local, part First, local, part Second, tail, local 1, local, part First, cast >i? >ii 2, cast >ii >i?, local, part Second, push 1, op Add, pair, tail / i ?: local, cast i ?, ret")
	for _, times := range []int64{1, 2, 10, 150} {
		again.Nums[0] = times
		want := fmt.Sprintf("num-2 %d 0 1", 8*times+24)
		if r, e := run.Run(again, api.MaxFuel, 4); toldRun(r, e) != want {
			t.Errorf("W4: %d times: %s, not %s", times, toldRun(r, e), want)
		}
	}
}
