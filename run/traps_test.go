package run_test

import (
	"fmt"
	"math"
	"strings"
	"testing"

	"culprit/api"
	"culprit/code"
	"culprit/rough"
	"culprit/run"
)

// Each trap, with another one behind it that would be told if it weren't.
func TestTrapsInOrder(t *testing.T) {
	want(t,
		// ErrEnd: none at the place.
		"i:", "ErrEnd 0 0",
		"i: push", "ErrEnd 0 1",
		"i: fn 1, push, call, ret / i i:", "ErrEnd 1 0",
		"i: fn 1, push, call, ret / i i: local", "ErrEnd 1 1",
		"i: truth, unless 3, ret, push", "ErrEnd 0 4",
		"i: fn 1, push, tail / i i: local", "ErrEnd 1 1",
		// What stands behind a ret is never looked at.
		"i: push, ret, #99", "num7 0 0 0",
		// The numbers ahead of ErrStack, and of what the value is.
		"i: #0", "ErrOp 0 0",
		"i: #-1", "ErrOp 0 0",
		"i: #24", "ErrOp 0 0",
		"i: #127", "ErrOp 0 0",
		"i: #-128", "ErrOp 0 0",
		"i: push 2", "ErrOp 0 0",
		"i: text 2", "ErrOp 0 0",
		"i: truth 2", "ErrOp 0 0",
		"i: op 9", "ErrOp 0 0",
		"i: op 18", "ErrOp 0 0",
		"i: part 18", "ErrOp 0 0",
		"i: part 21", "ErrOp 0 0",
		"i: part 25", "ErrOp 0 0",
		"i: list 5 7", "ErrOp 0 0",
		"i: list -1 i", "ErrOp 0 0",
		"i: local", "ErrLocal 0 0",
		"i: push, let, local 1", "ErrLocal 0 2",
		"i: fn", "ErrFn 0 0",
		"i: fn 1", "ErrFn 0 0",
		"i: rec 1", "ErrFn 0 0",
		"i: rec -1", "ErrFn 0 0",
		"i: cast 0", "ErrCast 0 0",
		"i: cast -1", "ErrCast 0 0",
		"i: pend 0", "ErrCast 0 0",
		"i: jump 0", "ErrEnd 0 0",
		"i: jump 1", "ErrEnd 0 0",
		"i: jump -1", "ErrEnd 0 0",
		"i: unless 0, ret", "ErrEnd 0 0",
		"i: unless 2, ret", "ErrEnd 0 0",
		"i: push, push, unless 2, ret", "ErrEnd 0 2",
		"i: push, op 9", "ErrOp 0 1",
		"i: push, part 21", "ErrOp 0 1",
		// ErrStack, ahead of ErrRow, of a coercion that may not be, of the kinds.
		"i: ret", "ErrStack 0 0",
		"i: let", "ErrStack 0 0",
		"i: box", "ErrStack 0 0",
		"i: get", "ErrStack 0 0",
		"i: unless 1, ret", "ErrStack 0 0",
		"i: op Neg", "ErrStack 0 0",
		"i: op Size", "ErrStack 0 0",
		"i: part First", "ErrStack 0 0",
		"i: part Second", "ErrStack 0 0",
		"i: part Head", "ErrStack 0 0",
		"i: part Tail", "ErrStack 0 0",
		"i: part Empty", "ErrStack 0 0",
		"i: truth, call", "ErrStack 0 1",
		"i: truth, tail", "ErrStack 0 1",
		"i: text, op Add", "ErrStack 0 1",
		"i: text, op Sub", "ErrStack 0 1",
		"i: text, op Mul", "ErrStack 0 1",
		"i: push, op Join", "ErrStack 0 1",
		"i: text, op Eq", "ErrStack 0 1",
		"i: text, op Less", "ErrStack 0 1",
		"i: push, pair", "ErrStack 0 1",
		"i: push, cons", "ErrStack 0 1",
		"i: push, set", "ErrStack 0 1",
		"i: list 1 i", "ErrStack 0 0",
		"i: push, push, list 3 i", "ErrStack 0 2",
		"i: cast i ?", "ErrStack 0 0",
		// ErrRow.
		"i: end", "ErrRow 0 0",
		"i: push, let, end, end", "ErrRow 0 3",
		"i: fn 1, push, call, ret / i i: end, end", "ErrRow 1 1",
		// A function's own row may be taken away, down to nothing.
		"i: push, let, fn 1, push 1, call, ret / i i; i: end, end, push 1, ret", "num-1 1 1 0",
	)
	// A coercion that may not be: behind ErrStack, ahead of what it is done to.
	for text, want := range map[string]string{
		"i: cast 1, ret": "ErrStack 0 0", "i: push, cast 1, ret": "ErrCast 0 1", "i: push, pend 1, ret": "ErrCast 0 1", "i: pend 1": "ErrCast 0 0",
		"i: push, pend 0, pend 1, ret": "ErrCast 0 2", "i: push, ret": "num7 0 0 0", "i: truth 1, unless 4, push, ret, cast 1": "num7 1 0 0",
	} {
		wantCoercing(t, text, want, "!i", "none")
	}
}

// What is asked ahead of a step is told without any fuel; what comes behind it is not.
func TestTrapsAndFuel(t *testing.T) {
	for text, want := range map[string]string{
		"i: op 9": "ErrOp 0 0", "i: op Add": "ErrStack 0 0", "i: push, op Add": "ErrStack 0 1", "i: unless 0": "ErrEnd 0 0", "i: push, call": "ErrStack 0 1", "i: push, tail": "ErrStack 0 1",
		"i: list -1 i": "ErrOp 0 0", "i: list 1 i": "ErrStack 0 0", "i: part 99": "ErrOp 0 0", "i: truth, op Neg": "fuel 0 0 0", "i: truth, truth, call": "fuel 0 0 0", "i: truth, truth, tail": "fuel 0 0 0",
		"i: push, unless 2, ret": "fuel 0 0 0", "i: push, part Head": "fuel 0 0 0", "i: push, get": "fuel 0 0 0", "i: push, push, set": "fuel 0 0 0", "i: push, box": "fuel 0 0 0", "i: push, push, pair": "fuel 0 0 0",
		"i: push, push, cons": "fuel 0 0 0", "i: list 0 i": "fuel 0 0 0", "i: truth, cast ? i": "ErrKind 0 1", "i: push, pend ? i, ret": "ErrKind 0 2", "i: push, let, local 1": "ErrLocal 0 2",
	} {
		if got := told(run.Loose(rough.Read(text), 0, 4)); got != want {
			t.Errorf("P21.2: %s, fuel 0: %s, not %s", text, got, want)
		}
	}
}

// A and B of each instruction at their bounds, one beyond, and far beyond.
func TestNumbers(t *testing.T) {
	far := []int{math.MinInt, -1 << 32, -256, -2, -1, 0, 1, 2, 3, 4, 5, 9, 10, 11, 16, 17, 18, 19, 20, 21, 22, 23, 24, 25, 255, 256, 257, 258, 266, 275, 1 << 32, 1<<32 + 1, 1<<32 + 10, math.MaxInt}
	for _, one := range []struct {
		text     string
		at       int // of the instruction whose A is set
		from, to int
		e        string
	}{
		{"i: push, ret", 0, 0, 1, "ErrOp"},
		{"i: text, ret", 0, 0, 1, "ErrOp"},
		{"i: truth, ret", 0, 0, 1, "ErrOp"},
		{"i: push, let, push, let, push, let, local, ret", 6, 0, 2, "ErrLocal"},
		{"i: fn, ret / i i: local, ret / i i: local, ret", 0, 1, 2, "ErrFn"},
		{"i: rec, ret / i i: local, ret / i i: local, ret", 0, 1, 2, "ErrFn"},
		{"i: push, cast i i, cast 0, pend i ?, ret", 2, 0, 1, "ErrCast"},
		{"i: push, cast i i, pend 0, pend i i, ret", 2, 0, 0, "ErrCast"},
		{"i: push, jump, ret, ret, ret", 1, 2, 4, "ErrEnd"},
		{"i: push, truth, unless, ret, ret", 2, 3, 4, "ErrEnd"},
		{"i: push, truth 1, unless, ret, ret", 2, 3, 4, "ErrEnd"},
		{"i: push, push, push, op, ret", 3, 10, 17, "ErrOp"},
	} {
		for _, a := range far {
			c := rough.Read(one.text)
			c.Functions[0].Code[one.at].A = a
			got := told(run.Loose(c, 9, 9))
			if want := fmt.Sprintf("%s 0 %d", one.e, one.at); (got == want) != (a < one.from || a > one.to) {
				t.Errorf("P21.2: %s: %s", rough.Written(c), got)
			}
		}
	}
	for _, n := range far {
		c := rough.Read("i: push, part, ret")
		c.Functions[0].Code[1].A = n
		some := n == 19 || n == 20 || n == 22 || n == 23 || n == 24
		if got := told(run.Loose(c, 9, 9)); got != "ErrOp 0 1" != some {
			t.Errorf("P21.2: %s: %s", rough.Written(c), got)
		}
		c = rough.Read("li: push, push, push, list 0 i, ret")
		c.Functions[0].Code[3].A = n
		want := "ErrStack 0 3"
		switch {
		case n < 0:
			want = "ErrOp 0 3"
		case n <= 3:
			want = strings.Repeat("cons num7 ", n) + "empty 1 0 0"
		}
		wantCode(t, c, 9, want)
		c.Functions[0].Code[3] = api.Ins{Op: code.List, A: 2, B: n}
		want = "ErrOp 0 3"
		if n == 0 {
			want = "cons num7 cons num7 empty 1 0 0"
		}
		wantCode(t, c, 9, want)
	}
}

// What an instruction does not name may be any number.
func TestOtherNumbers(t *testing.T) {
	text := "i: fn 1, push, call, let, truth, unless 8, push, ret, jump 9, local, push, op Add, push, pair, part First, list 1 i, part Head, list 0 i, cons, part Head, box, let, local, push, set, end, cast i ?, cast ? i, pend i i, ret / i i: fn 2, local, tail / i i; i: rec 3, local, tail / i i; >ii i i: local, end, ret"
	c := rough.Read(text)
	before := told(run.Loose(c, 99, 9))
	if !strings.HasPrefix(before, "num") {
		t.Fatalf("the tests' own code: %s", before)
	}
	for _, n := range []int{-1, 1, math.MaxInt, math.MinInt} {
		for fn := range c.Functions {
			for at, i := range c.Functions[fn].Code {
				switch i.Op {
				case code.Call, code.Tail, code.Ret, code.Let, code.End, code.Pair, code.Cons, code.Box, code.Get, code.Set:
					i.A = n
				}
				if i.Op != code.List {
					i.B = n
				}
				c.Functions[fn].Code[at] = i
			}
		}
		if got := told(run.Loose(c, 99, 9)); got != before {
			t.Errorf("P21.2: with %d where nothing is named: %s, not %s", n, got, before)
		}
	}
}

// Casts that are none, types that are none, functions and instructions that may not be: nothing is told of them where they are not reached. Nor do heads, types, From and To count for a run.
func TestWhatIsNotReached(t *testing.T) {
	c := rough.Read("i: fn 1, push, call, truth 1, unless 6, ret, #99, cast 7 / i i: local, ret / i i: #99 / i i:")
	c.Casts = []api.Waits{{From: "z", To: "", Co: nil}, {Co: []api.Co{{Op: 99}}}}
	c.Types = []string{"z", "", strings.Repeat("l", 99)}
	wantCode(t, c, 9, "num7 2 1 0")
	for n := range c.Functions {
		c.Functions[n].Env, c.Functions[n].Param, c.Functions[n].Result = []string{"z", "i"}, "zz", ""
	}
	wantCode(t, c, 9, "num7 2 1 0")
	c = rough.Read("li: push, list 1 i, ret")
	c.Types = []string{"z"}
	wantCode(t, c, 9, "cons num7 empty 1 0 0")
	c = rough.Read("?: push, cast i ?, ret")
	c.Casts[0].From, c.Casts[0].To = "z", ""
	wantCode(t, c, 9, "num7 0 0 0")
}
