package verify_test

import (
	"math"
	"slices"
	"testing"

	"culprit/api"
	"culprit/code"
	"culprit/rough"
)

// far: numbers around the bounds of small ones, and far from them.
func far() []int {
	return []int{math.MinInt, -1 << 32, -256, -2, -1, 0, 1, 2, 3, 4, 5, 255, 256, 257, 258, 1 << 32, 1<<32 + 1, math.MaxInt}
}

// A of each instruction at its bounds, one beyond, and far beyond.
func TestNumbers(t *testing.T) {
	for _, one := range []struct {
		text     string
		at       int // of the instruction whose A is set
		from, to int
		e        string
	}{
		{"i: push, let, push, ret", 0, 0, 1, "ErrOp"},
		{"i: text, let, push, ret", 0, 0, 1, "ErrOp"},
		{"i: truth, let, push, ret", 0, 0, 1, "ErrOp"},
		{"i: push, let, push, let, push, let, local, ret", 6, 0, 2, "ErrLocal"},
		{"i: fn, let, push, ret / i i: local, ret / i i: local, ret", 0, 1, 2, "ErrFn"},
		{"i: rec, let, push, ret / i i; >ii: local, ret / i i; >ii: local, ret", 0, 1, 2, "ErrFn"},
		{"i: push, cast i ?, let, push, cast i i, ret", 1, 0, 1, "ErrCast"},
		{"i: push, cast i ?, let, fn 1, push, pend i i, tail / i i; ?: local, ret", 5, 1, 1, "ErrCast"},
	} {
		for _, a := range far() {
			c := rough.Read(one.text)
			i := &c.Functions[0].Code[one.at]
			i.A = a
			e := "good"
			switch {
			case i.Op == code.Pend && a == 0:
				e = "ErrFrom 0 5" // it is there, but goes to another type
			case a < one.from || a > one.to:
				e = one.e + " 0 " + string(rune('0'+one.at))
			}
			wantCode(t, c, e)
		}
	}
}

// A of list: as many as lie there, of the type B.
func TestElements(t *testing.T) {
	for _, a := range far() {
		c := rough.Read("i: text, push, push, push, list 0 i, let, push, tail")
		c.Functions[0].Code[4].A = a
		wanted := "ErrStack 0 7"
		switch {
		case a < 0:
			wanted = "ErrOp 0 4"
		case a == 3: // the text and the last number are left, as many as tail takes
			wanted = "ErrKind 0 7"
		case a == 4:
			wanted = "ErrKind 0 4"
		case a > 4:
			wanted = "ErrStack 0 4"
		}
		wantCode(t, c, wanted)
	}
	want(t,
		"li: list 0 i, ret", "good", "li: push, list 1 i, ret", "good", "li: push, push, push, list 3 i, ret", "good", "li: push, push, list 3 i, ret", "ErrStack 0 2",
		"li: push, push, text, list 3 i, ret", "ErrKind 0 3", "li: push, text, push, list 3 i, ret", "ErrKind 0 3", "li: text, push, push, list 3 i, ret", "ErrKind 0 3", "lt: push, push, push, list 3 t, ret", "ErrKind 0 3",
		"l?: push, list 1 ?, ret", "ErrKind 0 1", "li: list 0 t, ret", "ErrKind 0 1", "lli: list 0 i, list 0 i, list 0 i, list 3 li, ret", "good", "lli: list 0 i, list 0 b, list 0 i, list 3 li, ret", "ErrKind 0 3",
	)
	// Many, of which each one may be another.
	for odd := range 70 {
		c := rough.Read("i: push, ret")
		c.Types = []string{"i"}
		var all []api.Ins
		for n := range 70 {
			op := code.Push
			if n == odd {
				op = code.Text
			}
			all = append(all, api.Ins{Op: op})
		}
		for a := range 72 {
			c.Functions[0].Code = append(slices.Clone(all), api.Ins{Op: code.List, A: a})
			switch {
			case a > 70:
				wantCode(t, c, "ErrStack 0 70")
			case a >= 70-odd:
				wantCode(t, c, "ErrKind 0 70")
			default:
				wantCode(t, c, "ErrEnd 0 71")
			}
		}
	}
}

// The kinds of op and part; what no part, and no operation, is.
func TestKinds(t *testing.T) {
	for _, a := range []int{math.MinInt, -1, 0, 1, 2, 3, 4, 5, 6, 7, 8, 9, 10, 11, 12, 13, 14, 15, 16, 17, 18, 19, 20, 21, 22, 23, 24, 25, 26, 27, 28, 29, 30, 31, 255 + 11, 256 + 19, 256 + 10, 1<<32 + 10, 1<<32 + 22, math.MaxInt} {
		op, part := "ErrOp 0 2", "ErrOp 0 2"
		if a >= 10 && a <= 17 {
			op = "ErrKind 0 2"
		}
		if slices.Contains([]int{19, 20, 22, 23, 24}, a) {
			part = "ErrKind 0 2"
		}
		c := rough.Read("i: truth, truth, op")
		c.Functions[0].Code[2].A = a
		wantCode(t, c, op)
		c = rough.Read("i: truth, truth, part")
		c.Functions[0].Code[2].A = a
		wantCode(t, c, part)
	}
}

// B of list is a place of Types; the B of all others is any number, and so is A where the chapter names nothing.
func TestUnnamedNumbers(t *testing.T) {
	for _, b := range []int{math.MinInt, -1, 0, 1, 2, math.MaxInt} {
		c := rough.Read("i: list 0 b, let, list 0 i, let, push, ret")
		c.Functions[0].Code[2].B = b
		if b == 0 || b == 1 {
			wantCode(t, c, "good")
		} else {
			wantCode(t, c, "ErrOp 0 2")
		}
	}
	c := rough.Read("i: list 0 0, ret")
	wantCode(t, c, "ErrOp 0 0")
	g := rough.Maker{}
	g.Dice = 201
	for range 300 {
		c := g.Deal(20)
		for n := range c.Functions {
			for k := range c.Functions[n].Code {
				i := &c.Functions[n].Code[k]
				other := []int{math.MinInt, -1, 0, 7, math.MaxInt}[g.Below(5)]
				if i.Op != code.List {
					i.B = other
				}
				switch i.Op {
				case code.Call, code.Tail, code.Ret, code.Let, code.End, code.Pair, code.Cons, code.Box, code.Get, code.Set:
					i.A = other
				}
			}
		}
		wantCode(t, c, "good")
	}
}

// Ops that are none.
func TestNoOps(t *testing.T) {
	for op := math.MinInt8; op <= math.MaxInt8; op++ {
		c := rough.Read("i: push, push, let, ret")
		c.Functions[0].Code[1].Op = int8(op)
		c.Functions[0].Code[1].A = -1 // of any op that has one A may not be that
		want := ""
		switch int8(op) {
		case code.Push, code.Text, code.Truth, code.Op, code.Part, code.List:
			want = "ErrOp 0 1"
		case code.Local:
			want = "ErrLocal 0 1"
		case code.Fn, code.Rec:
			want = "ErrFn 0 1"
		case code.Cast, code.Pend:
			want = "ErrCast 0 1"
		case code.Jump, code.Unless:
			want = "ErrEnd 0 1"
		case code.Call, code.Tail, code.Pair, code.Cons, code.Set:
			want = "ErrStack 0 1"
		case code.Ret:
			want = "good"
		case code.Let:
			want = "ErrStack 0 2"
		case code.End:
			want = "ErrRow 0 1"
		case code.Get:
			want = "ErrKind 0 1"
		case code.Box:
			want = "ErrStack 0 3"
		default:
			want = "ErrOp 0 1"
		}
		wantCode(t, c, want)
	}
}

// Where a jump may lead: to a place behind its own, up to the last one.
func TestWhereJumpsLead(t *testing.T) {
	for _, op := range []int8{code.Jump, code.Unless} {
		for _, a := range []int{math.MinInt, -1 << 32, -1, 0, 1, 2, 3, 4, 5, 6, 7, 8, 1 << 32, 1<<32 + 4, math.MaxInt} {
			c := rough.Read("i: truth, truth, let, jump, truth, let, push, ret")
			if op == code.Jump {
				c = rough.Read("i: truth, let, truth, let, jump, push, push, ret")
			}
			at := 3 + map[int8]int{code.Jump: 1}[op]
			c.Functions[0].Code[at] = api.Ins{Op: op, A: a}
			want := ""
			switch {
			case a <= at || a > 7:
				want = "ErrEnd 0 " + string(rune('0'+at))
			case op == code.Jump && a == 5:
				want = "ErrStack 0 7"
			case op == code.Jump && a == 6:
				want = "good"
			case op == code.Jump && a == 7:
				want = "ErrStack 0 7"
			case a == 4:
				want = "good"
			case a == 5:
				want = "ErrKind 0 4"
			case a == 6:
				want = "ErrRow 0 5"
			case a == 7:
				want = "ErrRow 0 6"
			}
			wantCode(t, c, want)
		}
	}
	// From the last place none leads on.
	want(t, "i: jump 1", "ErrEnd 0 0", "i: jump 0", "ErrEnd 0 0", "i: truth, unless 2", "ErrEnd 0 1", "i: truth, unless 1", "ErrEnd 0 1", "i: truth, unless 3", "ErrEnd 0 1",
		"i: truth, unless 2, push, ret", "good", "i: jump 1, jump 2, jump 3, push, ret", "good", "i: jump 1, jump 0, push, ret", "ErrEnd 0 1", "i: jump 3, ret, ret, push, ret", "good")
}
