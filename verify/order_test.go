package verify_test

import (
	"strings"
	"testing"

	"culprit/api"
	"culprit/code"
	"culprit/rough"
)

// In an instruction, each trap ahead of the next ones, which would be told without it.
func TestOrderInAnInstruction(t *testing.T) {
	large := strings.Repeat("l", 63) + "i"
	want(t,
		// A number ahead of what waits.
		"?: fn 1, push, pend i ?, push 9 / i i: local, ret", "ErrOp 0 3",
		"?: fn 1, push, pend i ?, #99 / i i: local, ret", "ErrOp 0 3",
		"?: fn 1, push, pend i ?, text 2 / i i: local, ret", "ErrOp 0 3",
		"?: fn 1, push, pend i ?, truth 2 / i i: local, ret", "ErrOp 0 3",
		"?: fn 1, push, pend i ?, op 9 / i i: local, ret", "ErrOp 0 3",
		"?: fn 1, push, pend i ?, part 21 / i i: local, ret", "ErrOp 0 3",
		"?: fn 1, push, pend i ?, list 0 0 / i i: local, ret", "ErrOp 0 3",
		"?: fn 1, push, pend i ?, list -1 0 / i i: list 0 i, local, ret", "ErrOp 0 3",
		"?: fn 1, push, pend i ?, local / i i: local, ret", "ErrLocal 0 3",
		"?: fn 1, push, pend i ?, fn / i i: local, ret", "ErrFn 0 3",
		"?: fn 1, push, pend i ?, rec 2 / i i: local, ret", "ErrFn 0 3",
		"?: fn 1, push, pend i ?, cast 1 / i i: local, ret", "ErrCast 0 3",
		"?: fn 1, push, pend i ?, pend 1 / i i: local, ret", "ErrCast 0 3",
		"?: fn 1, push, pend i ?, jump 3 / i i: local, ret", "ErrEnd 0 3",
		"?: fn 1, push, pend i ?, unless 4 / i i: local, ret", "ErrEnd 0 3",
		// A number ahead of the stack, and of the types.
		"i: list 1 0", "ErrOp 0 0", "i: op", "ErrOp 0 0", "i: part", "ErrOp 0 0", "i: cast", "ErrCast 0 0", "i: pend", "ErrCast 0 0", "i: unless", "ErrEnd 0 0",
		"i: push, op", "ErrOp 0 1", "i: push, cast", "ErrCast 0 1", "i: push, unless 2", "ErrEnd 0 1", "i: push, part 21", "ErrOp 0 1",
		// A pend asks for its cast ahead of what lies there, and for that ahead of its To.
		"b: push, push, pend i ?, tail", "ErrFrom 0 2",
		"b: push, pend i ?, tail", "ErrStack 0 1",
		"b: pend i ?, tail", "ErrStack 0 0",
		"b: push, push, push, pend i ?, tail", "ErrStack 0 3",
		// What waits ahead of the stack and the types.
		"?: fn 1, push, pend i ?, ret / i i: local, ret", "ErrFrom 0 3",
		"?: fn 1, push, pend i ?, op Add / i i: local, ret", "ErrFrom 0 3",
		"?: fn 1, push, pend i ?, list 7 i / i i: local, ret", "ErrFrom 0 3",
		"?: fn 1, push, pend i ?, end / i i: local, ret", "ErrFrom 0 3",
		"?: fn 1, push, pend i ?, call / i i: local, ret", "ErrFrom 0 3",
		// The stack ahead of the types.
		"i: text, op Add", "ErrStack 0 1", "i: text, call", "ErrStack 0 1", "i: text, cons", "ErrStack 0 1", "i: text, set", "ErrStack 0 1", "i: text, list 2 i", "ErrStack 0 1", "i: text, list 2 "+large, "ErrStack 0 1",
		"i: push, text, ret", "ErrStack 0 2", "i: text, tail", "ErrStack 0 1", "i: text, text, text, tail", "ErrStack 0 3", "i: cast b b", "ErrStack 0 0",
		// The types ahead of the size.
		"i: text, list 1 "+large, "ErrKind 0 1",
		// The types of a call ahead of what it answers.
		"b: fn 1, text, tail / i i: local, ret", "ErrKind 0 2",
	)
}

// What an instruction asks for itself is ahead of what lies where it goes on.
func TestAheadOfTheNextPlaces(t *testing.T) {
	large := strings.Repeat("l", 63) + "i"
	// The place behind the instruction is reached already, with a number on the stack and one in the row.
	front := "i: push, let, push, truth, unless 7, end, "
	want(t,
		front+"text, push, ret", "ErrRow 0 6",
		front+"text 5, push, ret", "ErrOp 0 6",
		front+"op Join, push, ret", "ErrStack 0 6",
		front+"op Size, push, ret", "ErrKind 0 6",
		front+"end, push, ret", "ErrRow 0 6",
		front+"list 0 "+large+", push, ret", "ErrLarge 0 6",
		front+"cast b b, push, ret", "ErrFrom 0 6",
		front+"fn 1, push, ret / i i; i: local, ret", "ErrRow 0 6",
	)
	// Likewise, but with the same row: the trap would be ErrKind.
	front = "i: push, truth, unless 4, "
	want(t,
		front+"text, push, ret", "ErrKind 0 3",
		front+"text 5, push, ret", "ErrOp 0 3",
		front+"op Join, push, ret", "ErrStack 0 3",
		front+"end, push, ret", "ErrRow 0 3",
		front+"list 0 "+large+", push, ret", "ErrLarge 0 3",
		front+"cast b b, push, ret", "ErrFrom 0 3",
		front+"fn 1, push, ret / i i; i: local, ret", "ErrRow 0 3",
		front+"fn 1, push, ret / i i: local, ret", "ErrKind 0 3",
		front+"jump 3, push, ret", "ErrEnd 0 3",
		"?: fn 1, push, truth, unless 5, pend i i, tail / i i: local, ret", "ErrFrom 0 4",
		"?: fn 1, push, truth, unless 5, pend i ?, tail / i i: local, ret", "ErrKind 0 4",
	)
}

// What waits.
func TestWaiting(t *testing.T) {
	want(t,
		"?: fn 1, push, pend i ?, tail / i i: local, ret", "good",
		"?: fn 1, push, pend i ?, pend ? i, pend i ?, tail / i ?: local, cast i ?, ret", "ErrKind 0 5",
		"?: fn 1, push, pend i ?, pend ? i, tail / i ?: local, cast i ?, ret", "good",
		"?: fn 1, push, pend i ?, pend ? i, tail / i i: local, ret", "ErrKind 0 4",
		"?: fn 1, push, pend i ?, pend i i, pend i i, tail / i i: local, ret", "good",
		"?: fn 1, push, pend i ?, pend i ?, tail / i i: local, ret", "ErrFrom 0 3",
		"?: fn 1, push, pend ? i, tail / i ?: local, cast i ?, ret", "ErrFrom 0 2",
		"i: fn 1, push, pend ? i, tail / i ?: local, cast i ?, ret", "good",
		"i: fn 1, push, pend ? i, tail / i i: local, ret", "ErrKind 0 3",
		"i: fn 1, push, pend ? i, tail / b ?: local, cast b ?, ret", "ErrKind 0 3",
		"i: push, push, pend i i, tail", "ErrKind 0 3",
		"i: text, text, pend i i, tail", "ErrKind 0 3",
		"i: push, push, pend i i", "ErrEnd 0 3",
		"i: push, pend i i, tail", "ErrStack 0 1",
		"i: push, push, push, pend i i, tail", "ErrStack 0 3",
		// In a function of its own, with that function's Result.
		"i: push, ret / i ?; >ii: local 1, local, pend i ?, tail", "good",
		"?: push, cast i ?, ret / i i; >i?: local 1, local, pend i ?, tail", "ErrFrom 1 2",
		// What waits in one function waits in none of the others.
		"?: fn 1, push, pend i ?, tail / i i: local, ret / i i: local, ret", "good",
		// A jump does not lead into the middle of it, with nothing waiting there.
		"?: fn 1, push, truth, unless 6, pend i ?, pend i i, tail / i i: local, ret", "ErrKind 0 5",
		"?: fn 1, push, truth, unless 5, pend i ?, tail, tail / i i: local, ret", "ErrKind 0 4",
		"?: fn 1, push, truth, unless 6, pend i ?, tail, pend i ?, tail / i i: local, ret", "good",
	)
	// Each other instruction, whatever it would take, and lay.
	for _, does := range []string{"push", "text", "truth", "local", "fn 1", "rec 2", "call", "ret", "jump 6", "unless 6", "let", "end", "op Add", "pair", "part First", "list 0 i", "cons", "box", "get", "set", "cast i ?"} {
		want(t, "?: push, let, fn 1, push, pend i ?, "+does+", tail / i i; i: local, ret / i i; >ii i: local, ret", "ErrFrom 0 5")
	}
}

// Places that are reached from two sides.
func TestReachedTwice(t *testing.T) {
	want(t,
		"i: truth, unless 3, jump 3, push, ret", "good",
		"i: truth, unless 3, push, ret", "ErrKind 0 2",
		"i: truth, unless 4, push, jump 5, push, ret", "good",
		"i: truth, unless 4, push, jump 5, text, ret", "ErrKind 0 4",
		"i: truth, unless 4, push, jump 6, text, op Size, ret", "good",
		"i: truth, unless 5, push, push, jump 6, push, op Add, ret", "ErrKind 0 5",
		"i: truth, unless 5, push, push, jump 7, push, push, op Add, ret", "good",
		"i: truth, unless 5, push, text, jump 7, text, push, pair, part First, ret", "ErrKind 0 6",
		"i: truth, unless 5, push, text, jump 7, push, text, pair, part First, ret", "good",
		"i: push, truth, unless 4, let, push, ret", "ErrRow 0 3",
		"i: push, truth, unless 5, let, local, ret", "ErrRow 0 4",
		"i: truth, unless 5, push, let, end, push, ret", "good",
		"i: truth, unless 4, push, let, push, ret", "ErrRow 0 3",
		"i: truth, unless 6, push, let, text, jump 9, push, let, text, let, push, ret", "good",
		"i: truth, unless 6, push, let, text, jump 9, text, let, text, let, push, ret", "ErrRow 0 8",
		"i: truth, unless 6, push, let, text, jump 9, push, let, push, let, push, ret", "ErrKind 0 8",
		"i: truth, unless 6, push, let, text, jump 9, text, let, push, let, push, ret", "ErrRow 0 8",
		"i: push, let, truth, unless 6, end, push, let, push, ret", "ErrRow 0 5",
		// One let in each arm, and one end for both; one let ahead, and an end in each arm.
		"i: truth, unless 5, push, let, jump 7, push, let, local, end, ret", "good",
		"i: push, let, truth, unless 6, end, jump 7, end, push, ret", "good",
		"i: push, let, truth, unless 6, end, jump 6, push, ret", "ErrRow 0 5",
		// Many jumps to one place.
		"i: truth, unless 7, truth, unless 7, truth, unless 7, jump 7, push, ret", "good",
		"i: truth, unless 7, truth, unless 7, push, truth, unless 7, push, ret", "ErrKind 0 6",
		"i: truth, unless 2, truth, unless 4, push, ret", "good",
	)
	// Of the two places of an unless the next one first.
	want(t,
		"i: push, let, truth, unless 11, end, truth, unless 10, push, truth, unless 11, push, ret", "ErrKind 0 9",
		"i: push, let, truth, unless 10, end, truth, unless 11, push, truth, unless 11, push, ret", "ErrRow 0 9",
		"i: push, let, truth, unless 10, end, truth, unless 11, truth, unless 11, push, ret, push, ret", "ErrRow 0 9",
		"i: push, let, truth, unless 11, end, truth, unless 11, truth, unless 11, push, ret, push, ret", "ErrRow 0 6",
		"i: truth, unless 7, push, truth, unless 7, ret, push, push, ret", "ErrKind 0 4",
	)
}

// The places rise: what is told is the first by its place, not by the way that leads there.
func TestPlacesRise(t *testing.T) {
	want(t,
		"i: truth, unless 4, op Add, ret, op Neg, ret", "ErrStack 0 2",
		"i: truth, unless 4, push, ret, op Neg, ret", "ErrStack 0 4",
		"i: jump 3, op Add, op Add, op Neg, ret", "ErrStack 0 3",
		"i: jump 3, push, ret, truth, unless 1, ret", "ErrEnd 0 4",
		"i: truth, unless 5, truth, unless 7, jump 8, push 3, ret, push 4, push 5, ret", "ErrOp 0 5",
		"i: truth, unless 5, truth, unless 7, jump 8, push, ret, push 4, push 5, ret", "ErrOp 0 7",
		"i: truth, unless 5, truth, unless 7, jump 9, push, ret, push, ret, push 5, ret", "ErrOp 0 9",
		// A function ahead of the next one.
		"i: push, push / i i: op Add", "ErrEnd 0 2",
		"i: fn 1, push, tail / i i: op Add / i i: op Add", "ErrStack 1 0",
		"i: fn 2, push, tail / i i: local, ret / i i: op Add", "ErrStack 2 0",
	)
}

// What is not reached may be anything.
func TestNotReached(t *testing.T) {
	odd := []api.Ins{{Op: 99}, {Op: 0}, {Op: -1, A: -5}, {Op: code.Jump}, {Op: code.Jump, A: -3}, {Op: code.Push, A: 99}, {Op: code.End}, {Op: code.Ret}, {Op: code.Tail}, {Op: code.List, A: -1, B: -1}, {Op: code.Cast, A: 7}, {Op: code.Fn}, {Op: code.Unless, A: 1 << 40}}
	for _, i := range odd {
		for _, text := range []string{"i: push, ret, ret", "i: jump 2, ret, push, ret", "i: fn 1, push, tail, ret / i i: local, ret", "i: push, jump 4, ret, ret, ret", "i: truth, unless 5, push, ret, ret, push, ret"} {
			c := rough.Read(text)
			at := map[int]int{3: 2, 4: 1}[len(c.Functions[0].Code)]
			switch {
			case len(c.Functions) > 1, len(c.Functions[0].Code) == 5:
				at = 3
			case len(c.Functions[0].Code) == 7:
				at = 4
			}
			c.Functions[0].Code[at] = i
			wantCode(t, c, "good")
			wantNoTypes(t, c, 0, at)
		}
	}
	// A jump that is not reached has no place reached.
	want(t, "i: push, ret, jump 4, truth, ret", "good", "i: push, ret, truth, unless 5, op Add, op Add, ret", "good")
	// Nor is a place reached whose own state would be asked for from there.
	c := rough.Read("i: jump 3, push, jump 3, push, ret")
	wantCode(t, c, "good")
	wantTypes(t, c, 0, 3, "-", "-")
}
