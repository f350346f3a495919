package verify_test

import (
	"slices"
	"strings"
	"testing"

	"culprit/api"
	"culprit/code"
	"culprit/rough"
	"culprit/verify"
)

// row: what an instruction takes, the latest last, and what it lays; "-" is nothing.
type row struct{ does, takes, lays string }

// rows of the table, by hand, for instructions that go on at the next place with a row that stays.
func rows() []row {
	return []row{
		{"push", "-", "i"}, {"push 1", "-", "i"}, {"text", "-", "t"}, {"text 1", "-", "t"}, {"truth", "-", "b"}, {"truth 1", "-", "b"},
		{"call", ">ib i", "b"}, {"call", ">>i?? >i?", "?"}, {"call", ">?? ?", "?"}, {"call", ">i>bt i", ">bt"},
		{"op Add", "i i", "i"}, {"op Sub", "i i", "i"}, {"op Mul", "i i", "i"}, {"op Join", "t t", "t"}, {"op Eq", "i i", "b"}, {"op Less", "i i", "b"}, {"op Neg", "i", "i"}, {"op Size", "t", "i"},
		{"pair", "i b", ",ib"}, {"pair", "l? ,it", ",l?,it"}, {"pair", "? ?", ",??"},
		{"part First", ",ib", "i"}, {"part First", ",,itlb", ",it"}, {"part Second", ",ib", "b"}, {"part Second", ",,itlb", "lb"}, {"part First", ",??", "?"},
		{"part Head", "li", "i"}, {"part Head", "l,bt", ",bt"}, {"part Tail", "li", "li"}, {"part Tail", "l>??", "l>??"}, {"part Empty", "li", "b"}, {"part Empty", "llt", "b"},
		{"list 0 i", "-", "li"}, {"list 1 i", "i", "li"}, {"list 2 b", "b b", "lb"}, {"list 3 ,?t", ",?t ,?t ,?t", "l,?t"}, {"list 0 ?", "-", "l?"},
		{"cons", "i li", "li"}, {"cons", ">?? l>??", "l>??"}, {"cons", "lt llt", "llt"},
		{"box", "i", "xi"}, {"box", "xt", "xxt"}, {"box", ">i?", "x>i?"},
		{"get", "xi", "i"}, {"get", "xxt", "xt"}, {"get", "x,i?", ",i?"},
		{"set", "xi i", "i"}, {"set", "x? ?", "?"}, {"set", "x>ii >ii", ">ii"},
		{"cast i ?", "i", "?"}, {"cast >ii >??", ">ii", ">??"}, {"cast ? b", "?", "b"}, {"cast ? ?", "?", "?"}, {"cast b b", "b", "b"},
	}
}

func (r row) types() []string { return strings.Fields(strings.ReplaceAll(r.takes, "-", "")) }

// read answers a code that has what the instruction names, and the instruction.
func (r row) read() (api.Code, api.Ins) {
	c := rough.Read("i: " + r.does)
	return c, c.Functions[0].Code[0]
}

func reversed(types []string) []string {
	types = slices.Clone(types)
	slices.Reverse(types)
	return types
}

// What is taken goes, what is laid lies there; what lies below stays.
func TestTakenAndLaid(t *testing.T) {
	for _, r := range rows() {
		c, i := r.read()
		takes := r.types()
		for _, below := range [][]string{nil, {"t"}, {"xb", "i"}, takes} {
			stack := slices.Concat(below, takes)
			all := laid(c, stack, i, len(below)+1)
			wantCode(t, all, "good")
			after := list(append([]string{r.lays}, reversed(below)...))
			wantTypes(t, all, 1, len(stack), list(append([]string{"i"}, stack...)), list(reversed(stack)))
			wantTypes(t, all, 1, len(stack)+1, list(append([]string{"i"}, stack...)), after)
		}
	}
}

// With one less on the stack than is taken, or none.
func TestTooFew(t *testing.T) {
	for _, r := range append(rows(), row{"unless 2", "b", "-"}, row{"let", "b", "-"}, row{"tail", ">ii i", "-"}, row{"ret", "i", "-"}) {
		c, i := r.read()
		takes := r.types()
		for short := 1; short <= len(takes); short++ {
			stack := takes[short:]
			if i.Op == code.Unless {
				i.A = 1 + len(stack)
			}
			wantCode(t, laid(c, stack, i, 0), "ErrStack 1 "+string(rune('0'+len(stack))))
		}
	}
}

// With something of another type in each place of what is taken.
func TestOtherTypes(t *testing.T) {
	tried := 0
	for _, r := range rows() {
		c, i := r.read()
		takes := r.types()
		for n := range takes {
			for _, other := range []string{"i", "b", "t", "?", ">ii", ">??", ",??", ",ib", "l?", "li", "lb", "x?", "xi", "llt", "xxt", "l>??"} {
				stack := slices.Clone(takes)
				stack[n] = other
				if other == takes[n] || fits(i, stack) {
					continue
				}
				tried++
				e := "ErrKind"
				if i.Op == code.Cast {
					e = "ErrFrom"
				}
				for _, below := range [][]string{nil, takes} {
					all := slices.Concat(below, stack)
					wantCode(t, laid(c, all, i, 0), e+" 1 "+string(rune('0'+len(all))))
				}
			}
		}
	}
	if tried < 800 {
		t.Errorf("too few types: %d", tried)
	}
}

// fits tells whether things of other types than those of a row may be taken, too: those of a pair, of what is put into a list or a box, a function or a whole of other parts.
func fits(i api.Ins, stack []string) bool {
	last := stack[len(stack)-1]
	switch i.Op {
	case code.Pair, code.Box:
		return true
	case code.Get:
		return last[0] == 'x'
	case code.Call:
		return strings.HasPrefix(stack[0], ">"+last)
	case code.Cons:
		return last == "l"+stack[0]
	case code.Set:
		return stack[0] == "x"+last
	case code.Part:
		wanted := byte('l')
		if i.A < int(api.Head) {
			wanted = ','
		}
		return last[0] == wanted
	case code.Op:
		wanted := "i"
		if i.A == int(api.Join) || i.A == int(api.Size) {
			wanted = "t"
		}
		return !slices.ContainsFunc(stack, func(t string) bool { return t != wanted })
	}
	return false
}

// local lays the type at its place of the row.
func TestLocal(t *testing.T) {
	want(t,
		"i: push, ret / b i; i t: local 1, ret", "good",
		"i: push, ret / b b; i t: local, ret", "good",
		"i: push, ret / b t; i t: local 2, ret", "good",
		"i: push, ret / b t; i t: local 3, ret", "ErrLocal 1 0",
		"i: push, ret / b t; i t: local 1, ret", "ErrKind 1 1",
		"i: local, ret", "ErrLocal 0 0",
		"i: push, let, local, ret", "good",
		"t: push, let, text, let, local, ret", "good",
		"i: push, let, text, let, local 1, ret", "good",
		"i: push, let, text, let, local 2, ret", "ErrLocal 0 4",
		"i: push, let, text, let, end, local 1, ret", "ErrLocal 0 5",
		"i: push, let, text, let, end, local, ret", "good",
	)
	// Each place of a long row.
	for n := range 70 {
		env := make([]string, 70)
		for k := range env {
			env[k] = strings.Repeat("l", k%60) + "i"
		}
		c := rough.Read("i: push, ret / i i: local, let, push, ret")
		c.Functions[1].Env = env
		c.Functions[1].Code[0].A = n + 1
		wantTypes(t, c, 1, 1, list(append([]string{"i"}, env...)), env[n])
	}
}

// fn and rec lay a function; its Env is the row, of rec with itself in front.
func TestClosures(t *testing.T) {
	want(t,
		">ii: fn 1, ret / i i: local, ret", "good",
		">it: fn 1, ret / i t: text, ret", "good",
		">ti: fn 1, ret / i t: text, ret", "ErrKind 0 1",
		">ii: fn 1, ret / i i; i: local, ret", "ErrRow 0 0",
		">ii: push, let, fn 1, ret / i i; i: local, ret", "good",
		">ii: push, let, fn 1, ret / i i: local, ret", "ErrRow 0 2",
		">ii: push, let, fn 1, ret / i i; b: local, ret", "ErrRow 0 2",
		">ii: push, let, text, let, fn 1, ret / i i; t i: local, ret", "good",
		">ii: push, let, text, let, fn 1, ret / i i; i t: local, ret", "ErrRow 0 4",
		">ii: push, let, text, let, fn 1, ret / i i; t: local, ret", "ErrRow 0 4",
		">ii: push, let, text, let, fn 1, ret / i i; t i b: local, ret", "ErrRow 0 4",
		">ii: push, let, text, let, fn 1, ret / i i; t b: local, ret", "ErrRow 0 4",
		">ii: push, let, text, let, end, fn 1, ret / i i; i: local, ret", "good",
		">ii: rec 1, ret / i i; >ii: local, ret", "good",
		">ii: rec 1, ret / i i: local, ret", "ErrRow 0 0",
		">ii: rec 1, ret / i i; >ib: local, ret", "ErrRow 0 0",
		">ii: push, let, rec 1, ret / i i; >ii i: local, ret", "good",
		">ii: push, let, rec 1, ret / i i; i >ii: local, ret", "ErrRow 0 2",
		">ii: push, let, rec 1, ret / i i; >ii: local, ret", "ErrRow 0 2",
		">ii: push, let, fn 1, ret / i i; >ii i: local, ret", "ErrRow 0 2",
		">ii: fn 1, ret / i i; >ii: local, ret", "ErrRow 0 0",
		// A function may close itself, one behind it, one ahead of it; the same one many times.
		"i: push, ret / i >ii: fn 2, ret / i i; i: local, ret", "good",
		"i: push, ret / i i; i: local, ret / i >ii: fn 1, ret", "good",
		"i: push, ret / i >ii; >i>ii: local 1, let, end, rec 2, ret / i i; >ii i >i>ii: local, ret", "good",
		"l>ii: fn 1, fn 1, fn 1, list 3 >ii, ret / i i: local, ret", "good",
		// fn and rec of a function whose Env has itself in front.
		">i?: fn 1, let, rec 2, ret / i ?: local, cast i ?, ret / i ?; >i? >i?: local 1, local, tail", "good",
		">i?: fn 1, let, fn 2, ret / i ?: local, cast i ?, ret / i ?; >i?: local 1, local, tail", "good",
	)
}

// ret takes what the function answers, alone; tail a call that answers it.
func TestEnds(t *testing.T) {
	want(t,
		"i: push, ret", "good",
		"b: push, ret", "ErrKind 0 1",
		"?: push, ret", "ErrKind 0 1",
		"i: ret", "ErrStack 0 0",
		"i: push, push, ret", "ErrStack 0 2",
		"i: push, push, push, ret", "ErrStack 0 3",
		"i: text, push, ret", "ErrStack 0 2",
		"i: text, let, push, ret", "good",
		"i: fn 1, push, tail / i i: local, ret", "good",
		"b: fn 1, push, tail / i i: local, ret", "ErrKind 0 2",
		"i: fn 1, text, tail / i i: local, ret", "ErrKind 0 2",
		"i: push, push, tail", "ErrKind 0 2",
		"i: push, tail", "ErrStack 0 1",
		"i: tail", "ErrStack 0 0",
		"i: push, fn 1, push, tail / i i: local, ret", "ErrStack 0 3",
		"i: fn 1, push, push, tail / i i: local, ret", "ErrStack 0 3",
		"i: fn 1, push, push, call, tail / i i: local, ret", "ErrKind 0 3",
		"i: push, let, fn 1, push, tail / i i; i: local, ret", "good",
		// Each function has its own Result.
		"i: push, ret / i b: local, ret", "ErrKind 1 1",
		"i: push, ret / i b: truth, ret", "good",
		"i: push, ret / b b; >bi: local 1, local, tail", "ErrKind 1 2",
		"i: push, ret / b i; >bi: local 1, local, tail", "good",
	)
}

// let and end.
func TestLetAndEnd(t *testing.T) {
	want(t,
		"i: push, let, end, push, ret", "good",
		"i: end", "ErrRow 0 0",
		"i: push, let, end, end, push, ret", "ErrRow 0 3",
		"i: push, let, push, let, end, end, push, ret", "good",
		"i: push, let, push, let, end, end, end, push, ret", "ErrRow 0 6",
		"i: push, end, ret", "ErrRow 0 1",
		"i: push, ret / i i: end", "ErrRow 1 0",
		"i: push, ret / i i; i b: end", "ErrRow 1 0",
		"i: push, ret / i i; i b: local, let, end, end", "ErrRow 1 3",
		"i: push, ret / i i; i b: local, let, end, local 1, ret", "good",
		"i: push, let, text, let, truth, let, end, end, local, ret", "good",
		"b: push, let, text, let, truth, let, end, end, truth, let, local, ret", "good",
		"i: let", "ErrStack 0 0",
		"i: push, text, let, ret", "good",
		"i: push, text, let, end, ret", "good",
	)
	c := rough.Read("i: push, text, let, truth, let, end, ret")
	for at, state := range [][2]string{{"-", "-"}, {"-", "i"}, {"-", "t i"}, {"t", "i"}, {"t", "b i"}, {"b t", "i"}, {"t", "i"}} {
		wantTypes(t, c, 0, at, state[0], state[1])
	}
}

// unless and jump.
func TestJumps(t *testing.T) {
	want(t,
		"i: truth, unless 3, jump 3, push, ret", "good",
		"i: jump 1, push, ret", "good",
		"i: jump 2, ret, push, ret", "good",
		"i: jump 3, ret, push, push, ret", "good",
		"i: push, unless 2, push, ret", "ErrKind 0 1",
		"i: unless 1, push, ret", "ErrStack 0 0",
		"i: push, truth, unless 3, ret", "good",
		"i: push, truth, unless 4, ret, ret", "good",
		"i: push, text, unless 3, ret", "ErrKind 0 2",
		"i: truth, truth, unless 4, let, let, push, ret", "ErrRow 0 3",
		"i: truth, unless 4, push, ret, text, op Size, ret", "good",
		"i: truth, unless 4, push, jump 6, text, op Size, ret", "good",
		"i: truth, unless 4, push, jump 6, text, op Neg, ret", "ErrKind 0 5",
	)
}

// Types with MaxType letters, and with one more.
func TestLargeTypes(t *testing.T) {
	l := func(letters int) string { return strings.Repeat("l", letters-1) + "i" }
	for _, one := range []struct {
		does  string
		stack []string
		want  string
	}{
		{"pair", []string{l(31), l(32)}, "good"}, {"pair", []string{l(32), l(32)}, "ErrLarge 1 2"}, {"pair", []string{l(64), l(64)}, "ErrLarge 1 2"}, {"pair", []string{l(1), l(62)}, "good"}, {"pair", []string{l(63), l(1)}, "ErrLarge 1 2"},
		{"list 0 " + l(63), nil, "good"}, {"list 0 " + l(64), nil, "ErrLarge 1 0"}, {"list 1 " + l(63), []string{l(63)}, "good"}, {"list 1 " + l(64), []string{l(64)}, "ErrLarge 1 1"},
		{"box", []string{l(63)}, "good"}, {"box", []string{l(64)}, "ErrLarge 1 1"},
		{"cons", []string{l(63), l(64)}, "good"}, {"cons", []string{l(64), l(64)}, "ErrKind 1 2"}, {"set", []string{"x" + l(63), l(63)}, "good"}, {"get", []string{"x" + l(63)}, "good"},
		{"call", []string{">" + l(31) + l(32), l(31)}, "good"}, {"part First", []string{"," + l(31) + l(32)}, "good"}, {"part Tail", []string{l(64)}, "good"}, {"part Head", []string{l(64)}, "good"},
		{"cast " + l(64) + " l?", []string{l(64)}, "good"}, {"cast l? " + l(64), []string{"l?"}, "good"},
	} {
		c, i := row{does: one.does}.read()
		wantCode(t, laid(c, one.stack, i, 1), one.want)
	}
	// Texts of lists that are no longer types are not laid on the way either: what is too large is told where it would be laid.
	want(t, "i: push"+strings.Repeat(", box", 63)+", let, push, ret", "good",
		"i: push"+strings.Repeat(", box", 64)+", let, push, ret", "ErrLarge 0 64")
	if _, ok := verify.Code(rough.Read("x" + l(63) + ": list 0 " + l(62) + ", box, ret")); !ok {
		t.Error("P20.1: a type of MaxType letters")
	}
}
