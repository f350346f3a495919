package verify_test

import (
	"slices"
	"strings"
	"testing"

	"culprit/api"
	"culprit/code"
	"culprit/rough"
	"culprit/verify"
)

// many: how many of something a large code has. Were each of them held against each of the others, the tests would not end.
const many = 1 << 17

func times(n int, l ...api.Ins) []api.Ins { return slices.Repeat(l, n) }

// program answers code with a program of these instructions, which answers a number.
func program(parts ...[]api.Ins) api.Code {
	return api.Code{Nums: []int64{7}, Texts: []string{"a"}, Types: []string{"i", "t"}, Functions: []api.Function{{Result: "i", Code: slices.Concat(parts...)}}}
}

func one(op int8, numbers ...int) api.Ins {
	i := api.Ins{Op: op}
	for n, field := range []*int{&i.A, &i.B} {
		if n < len(numbers) {
			*field = numbers[n]
		}
	}
	return i
}

var push, let, ret = one(code.Push), one(code.Let), one(code.Ret)

// out: what ends a program, whatever lies in its row, with one on the stack.
func out() []api.Ins { return []api.Ins{let, push, ret} }

func TestDeepStacks(t *testing.T) {
	c := program(times(many, push), []api.Ins{one(code.List, many, 0)}, out())
	wantCode(t, c, "good")
	row, stack, ok := verify.Types(c, 0, many)
	if !ok || len(row) > 0 || len(stack) != many || slices.ContainsFunc(stack, func(t string) bool { return t != "i" }) {
		t.Errorf("P20.2: %d in the row, %d on the stack, %v", len(row), len(stack), ok)
	}
	c.Functions[0].Code[many].A = many + 1
	if got := told(verify.Code(c)); got != "ErrStack 0 131072" {
		t.Errorf("P20.1: a list of one more: %s", got)
	}
	c.Functions[0].Code[many].A = many
	c.Functions[0].Code[0] = one(code.Text)
	if got := told(verify.Code(c)); got != "ErrKind 0 131072" {
		t.Errorf("P20.1: a list with a text at its beginning: %s", got)
	}
	c.Functions[0].Code[many].A = many - 1
	if got := told(verify.Code(c)); got != "ErrStack 0 131075" {
		t.Errorf("P20.1: a list ahead of which a text lies: %s", got)
	}
}

// Each place of a long row, of which each has a type of its own.
func TestLongRows(t *testing.T) {
	const long = many / 4
	g := rough.Maker{}
	env := make([]string, long)
	for n := range env {
		env[n] = strings.Repeat("l", n%50) + g.Typ(8)
	}
	f := api.Function{Env: env, Param: "i", Result: "i"}
	for n := range env {
		f.Code = append(f.Code, one(code.Local, n+1))
	}
	f.Code = append(f.Code, one(code.Local, long+1))
	c := program([]api.Ins{push, ret})
	c.Functions = append(c.Functions, f)
	if got := told(verify.Code(c)); got != "ErrLocal 1 32768" {
		t.Errorf("P20.1: %s", got)
	}
	c.Functions[1].Code[long] = one(code.Local, long)
	c.Functions[1].Code = slices.Concat(c.Functions[1].Code, times(long+1, let), []api.Ins{push, ret})
	wantCode(t, c, "good")
	row, stack, ok := verify.Types(c, 1, long)
	if !ok || !slices.Equal(row[1:], env) || !slices.Equal(reversed(stack), env) {
		t.Errorf("P20.2: a row of %d, a stack of %d, %v", len(row), len(stack), ok)
	}
	// Its ends.
	body := slices.Concat(times(many, push, let), times(many, one(code.End)), []api.Ins{push, ret})
	wantCode(t, program(body), "good")
	body[len(body)-2] = one(code.End)
	if got := told(verify.Code(program(body))); got != "ErrRow 0 393216" {
		t.Errorf("P20.1: one end more: %s", got)
	}
}

// Many jumps to one place, over which much lies, laid on two ways.
func TestManyJumpsToOnePlace(t *testing.T) {
	choices := func(to int) []api.Ins { return times(many/4, one(code.Truth), one(code.Unless, to)) }
	deep := times(many/4, push)
	end := 2 + 2*(len(deep)+2*(many/4)+1)
	c := program(
		[]api.Ins{one(code.Truth), one(code.Unless, end/2+1)},
		deep, choices(end), []api.Ins{one(code.Jump, end)},
		deep, choices(end), []api.Ins{one(code.Jump, end)},
		[]api.Ins{one(code.List, many/4, 0)}, out())
	wantCode(t, c, "good")
	if _, stack, ok := verify.Types(c, 0, end); !ok || len(stack) != many/4 {
		t.Errorf("P20.2: a stack of %d, %v", len(stack), ok)
	}
	// One other at the very beginning of one of both.
	c.Functions[0].Code[2] = one(code.Text)
	if got := told(verify.Code(c)); !strings.HasPrefix(got, "ErrKind 0 ") {
		t.Errorf("P20.1: %s", got)
	}
}

// Many lists made of all that lies there, each on a way of its own.
func TestManyLists(t *testing.T) {
	const ways = many / 8
	front := times(ways, push)
	var choices, arms []api.Ins
	for n := range ways {
		choices = append(choices, one(code.Truth), one(code.Unless, 3*ways+2+4*n))
		arms = append(arms, one(code.List, ways, 0))
		arms = append(arms, out()...)
	}
	c := program(front, choices, []api.Ins{one(code.Jump, 3*ways+2), ret}, arms)
	wantCode(t, c, "good")
}

// Many closures of functions with long Envs.
func TestManyClosures(t *testing.T) {
	const long = many / 16
	var env []string
	var lets, closures []api.Ins
	for n := range long {
		env = append([]string{[]string{"i", "t"}[n%2]}, env...)
		lets = append(lets, one([]int8{code.Push, code.Text}[n%2]), let)
		closures = append(closures, one(code.Fn, 1+n%4), one(code.Rec, 5+n%4))
	}
	c := program(lets, closures, []api.Ins{one(code.List, 2*long, 2)}, out())
	c.Types = append(c.Types, ">it")
	for n := range 8 {
		f := api.Function{Env: env, Param: "i", Result: "t", Code: []api.Ins{one(code.Text), ret}}
		if n >= 4 {
			f.Env = append([]string{">it"}, env...)
		}
		c.Functions = append(c.Functions, f)
	}
	wantCode(t, c, "good")
	// One other, far behind.
	env = slices.Clone(env)
	env[long-1] = "b"
	c.Functions[4].Env = env
	if got := told(verify.Code(c)); got != "ErrRow 0 16390" {
		t.Errorf("P20.1: %s", got)
	}
}

// Many functions, casts, types.
func TestMany(t *testing.T) {
	c := program([]api.Ins{push, ret})
	for range many {
		c.Functions = append(c.Functions, api.Function{Param: "i", Result: "i", Code: []api.Ins{push, ret}})
	}
	w := rough.Read("i: push, cast i ?, ret").Casts[0]
	c.Casts = slices.Repeat([]api.Waits{w}, many)
	c.Types = slices.Repeat([]string{"i"}, many)
	wantCode(t, c, "good")
	c.Functions[many].Code = []api.Ins{push, one(code.List, 1, many-1), let, push, one(code.Cast, many-1), let, push, ret}
	wantCode(t, c, "good")
	c.Functions[many].Code[4].A = many
	if got := told(verify.Code(c)); got != "ErrCast 131072 4" {
		t.Errorf("P20.1: %s", got)
	}
	c.Types[many-1] = "z"
	if got := told(verify.Code(c)); got != "ErrShape -1 131071" {
		t.Errorf("P20.1: %s", got)
	}
	c.Casts[many-1].From = "z"
	if got := told(verify.Code(c)); got != "ErrCast -1 131071" {
		t.Errorf("P20.1: %s", got)
	}
}

// Long waits, and long ways of jumps.
func TestLongWays(t *testing.T) {
	c := rough.Read("i: fn 1, push, tail / i i: local, ret")
	at := rough.CastPlace(&c, "i", "i", 1)
	c.Functions[0].Code = slices.Concat(c.Functions[0].Code[:2], times(many, one(code.Pend, at)), []api.Ins{one(code.Tail)})
	wantCode(t, c, "good")
	if _, stack, ok := verify.Types(c, 0, many+2); !ok || list(stack) != "i >ii" {
		t.Errorf("P20.2: %v, %v", stack, ok)
	}
	var jumps []api.Ins
	for n := range many {
		jumps = append(jumps, one(code.Jump, 2*n+2), one(99))
	}
	wantCode(t, program(jumps, []api.Ins{push, ret}), "good")
}
