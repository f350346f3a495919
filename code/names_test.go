package code_test

import (
	"math"
	"strings"
	"testing"

	"culprit/code"
)

// The numbers and the names of the chapter's table.
func TestNames(t *testing.T) {
	for i, c := range []struct {
		op   int8
		name string
	}{
		{code.Push, "push"}, {code.Text, "text"}, {code.Truth, "truth"}, {code.Local, "local"}, {code.Fn, "fn"}, {code.Rec, "rec"}, {code.Call, "call"}, {code.Tail, "tail"}, {code.Ret, "ret"}, {code.Jump, "jump"}, {code.Unless, "unless"}, {code.Let, "let"},
		{code.End, "end"}, {code.Op, "op"}, {code.Pair, "pair"}, {code.Part, "part"}, {code.List, "list"}, {code.Cons, "cons"}, {code.Box, "box"}, {code.Get, "get"}, {code.Set, "set"}, {code.Cast, "cast"}, {code.Pend, "pend"},
	} {
		if int(c.op) != i+1 {
			t.Errorf("P18.1: %s is %d; want %d", c.name, c.op, i+1)
		}
		if got := code.Name(c.op); got != c.name {
			t.Errorf("P18.1: Name(%d) = %q; want %q", c.op, got, c.name)
		}
	}
}

func TestNameOfEveryOp(t *testing.T) {
	names := strings.Fields(opNames)
	for op := math.MinInt8; op <= math.MaxInt8; op++ {
		want := ""
		if op >= 1 && op <= len(names) {
			want = names[op-1]
		}
		if got := code.Name(int8(op)); got != want {
			t.Errorf("P18.1: Name(%d) = %q; want %q", op, got, want)
		}
	}
}
