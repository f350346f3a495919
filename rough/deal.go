package rough

import (
	"slices"

	"culprit/api"
	"culprit/code"
	"culprit/sample"
)

// Maker deals code that may run: not such alone as emit lays, but with values left on the stack and in the row, returns amid a function, ways that meet anywhere, functions that are closed often or never, places that are not reached.
type Maker struct {
	sample.Maker
	c     api.Code
	later []*body // the functions that are still to be written
}

// body is a function that is being written.
type body struct {
	*Maker
	fn         int
	begin      int      // how long the row is at the beginning
	row, stack []string // the nearest first; the latest last
	code       []api.Ins
	open       []open // jumps that lead to no place yet
	room       int    // how many instructions may still be chosen
}

// open is a jump, and the state that it leaves.
type open struct {
	at         int
	row, stack []string
}

// Deal deals code with about so many instructions.
func (g *Maker) Deal(room int) api.Code {
	g.c = api.Code{Nums: []int64{0, 1, 2, -1}, Texts: []string{"", "a", "bc"}}
	g.later = nil
	result := g.Typ(4)
	if g.Coin() {
		result = g.One("i", "b", "t", ",it", "li")
	}
	g.function(api.Function{Result: result}, room)
	for n := 0; n < len(g.later); n++ {
		b := g.later[n]
		b.write()
		g.c.Functions[b.fn].Code = b.code
	}
	return g.c
}

func (g *Maker) function(f api.Function, room int) int {
	fn := len(g.c.Functions)
	g.c.Functions = append(g.c.Functions, f)
	b := &body{Maker: g, fn: fn, room: room}
	if fn > 0 {
		b.row = append([]string{f.Param}, f.Env...)
	}
	b.begin = len(b.row)
	g.later = append(g.later, b)
	return fn
}

func (b *body) result() string { return b.c.Functions[b.fn].Result }

func (b *body) lay(op int8, a, second int) {
	b.code = append(b.code, api.Ins{Op: op, A: a, B: second})
}

// with lays an instruction that leaves one more of that type.
func (b *body) with(t string, op int8, a, second int) {
	b.lay(op, a, second)
	b.stack = append(slices.Clone(b.stack), t)
}

// without answers the type of the latest, and forgets it.
func (b *body) without() string {
	last := len(b.stack) - 1
	t := b.stack[last]
	b.stack = b.stack[:last:last]
	return t
}

func (b *body) top(n int) string {
	if len(b.stack) < n {
		return "-"
	}
	return b.stack[len(b.stack)-n]
}

// write writes the function to its end, and what the jumps lead to that are open then.
func (b *body) write() {
	for {
		for goesOn := true; goesOn && b.room > 0; b.room-- {
			b.meet()
			goesOn = b.one()
		}
		if b.room <= 0 {
			b.meet()
			b.finish()
		}
		if len(b.open) == 0 {
			return
		}
		if b.Below(4) == 0 {
			b.noise()
		}
		next := b.Below(len(b.open))
		b.row, b.stack = b.open[next].row, b.open[next].stack
		b.lead(next)
	}
}

// lead has an open jump lead to the next place.
func (b *body) lead(n int) {
	b.code[b.open[n].at].A = len(b.code)
	b.open = slices.Delete(b.open, n, n+1)
}

// meet has some of the open jumps lead here that may.
func (b *body) meet() {
	for n := len(b.open) - 1; n >= 0; n-- {
		if o := b.open[n]; slices.Equal(o.row, b.row) && slices.Equal(o.stack, b.stack) && b.Below(3) > 0 {
			b.lead(n)
		}
	}
}

// noise lays what is never reached.
func (b *body) noise() {
	for range 1 + b.Below(3) {
		b.lay(int8(b.Below(26)-1), b.Below(40)-3, b.Below(5)-1)
	}
}

func (b *body) jump(op int8) {
	b.open = append(b.open, open{len(b.code), b.row, b.stack})
	b.lay(op, -1, 0)
}

// one lays an instruction, and what it wants if that does not lie there; it answers whether the next place is reached.
func (b *body) one() bool {
	switch n := b.Below(16); n {
	case 0, 1:
		b.want("b")
		b.without()
		b.jump(code.Unless)
	case 2:
		if len(b.code) > 3 && b.Below(2) == 0 {
			b.jump(code.Jump)
			return false
		}
	case 3:
		if len(b.stack) > 0 {
			b.let()
		}
	case 4, 5:
		if len(b.row) > b.begin {
			b.lay(code.End, 0, 0)
			b.row = b.row[1:]
		}
	case 6:
		b.want(b.Typ(4))
	case 7:
		if b.Below(4) == 0 {
			b.finish()
			return false
		}
	case 8, 9:
		b.operation()
	default:
		b.other()
	}
	return true
}

func (b *body) let() {
	b.lay(code.Let, 0, 0)
	b.row = append([]string{b.without()}, b.row...)
}

// want lays something of that type.
func (b *body) want(t string) {
	if at := slices.Index(b.row, t); at >= 0 && b.Below(3) > 0 {
		b.with(t, code.Local, at, 0)
		return
	}
	switch t[0] {
	case 'i':
		b.with(t, code.Push, b.Below(4), 0)
	case 't':
		b.with(t, code.Text, b.Below(3), 0)
	case 'b':
		b.with(t, code.Truth, b.Below(2), 0)
	case '?':
		b.want(b.One("i", "b", "t", "li", "x?", ">?i"))
		b.cast("?")
	case '>':
		b.closure(t)
	default:
		b.made(t)
	}
}

func (b *body) made(t string) {
	one, other := sample.Cut(t[1:])
	switch t[0] {
	case ',':
		b.want(one)
		b.want(other)
		b.pair()
	case 'l':
		n := b.Below(4)
		for range n {
			b.want(one)
		}
		b.list(n, one)
	case 'x':
		b.want(one)
		b.without()
		b.with(t, code.Box, 0, 0)
	}
}

func (b *body) pair() {
	second := b.without()
	b.with(","+b.without()+second, code.Pair, 0, 0)
}

func (b *body) list(n int, t string) {
	for range n {
		b.without()
	}
	b.with("l"+t, code.List, n, TypePlace(&b.c, t))
}

func (b *body) cast(to string) {
	from := b.without()
	b.with(to, code.Cast, CastPlace(&b.c, from, to, b.Label()), 0)
}

// closure lays one of that type, of a function that stands already, if there is one that fits, or of a new one.
func (b *body) closure(t string) {
	from, to := sample.Cut(t[1:])
	op, env := code.Fn, b.row
	if b.Coin() {
		op, env = code.Rec, append([]string{t}, b.row...)
	}
	for fn, f := range b.c.Functions {
		if fn > 0 && f.Param == from && f.Result == to && slices.Equal(f.Env, env) && b.Below(3) > 0 {
			b.with(t, op, fn, 0)
			return
		}
	}
	room := 0
	if len(b.c.Functions) < 5 {
		room = b.Below(8)
	}
	b.with(t, op, b.Maker.function(api.Function{Env: slices.Clone(env), Param: from, Result: to}, room), 0)
}

func (b *body) operation() {
	kind := []int8{api.Add, api.Sub, api.Mul, api.Join, api.Eq, api.Less, api.Neg, api.Size}[b.Below(8)]
	t, to := "i", "i"
	switch kind {
	case api.Join:
		t, to = "t", "t"
	case api.Size:
		t = "t"
	case api.Eq, api.Less:
		to = "b"
	}
	takes := 2
	if kind == api.Neg || kind == api.Size {
		takes = 1
	}
	for b.top(1) != t || takes == 2 && b.top(2) != t {
		b.want(t)
	}
	for range takes {
		b.without()
	}
	b.with(to, code.Op, int(kind), 0)
}

// other lays what hangs on what lies there.
func (b *body) other() {
	t := b.top(1)
	one, other := "-", "-"
	if len(t) > 1 {
		one, other = sample.Cut(t[1:])
	}
	switch {
	case t == "-" || b.Below(6) == 0:
		b.want(b.Typ(5))
	case len(t) < 20 && b.Below(4) == 0:
		b.cast(b.Near(t))
	case t[0] == '>' && b.Below(4) > 0:
		b.want(one)
		b.without()
		b.without()
		b.with(other, code.Call, 0, 0)
	case t[0] == ',' && b.Coin():
		b.without()
		if b.Coin() {
			b.with(one, code.Part, int(api.First), 0)
		} else {
			b.with(other, code.Part, int(api.Second), 0)
		}
	case t[0] == 'l' && b.Below(3) > 0:
		b.without()
		kind := []int8{api.Head, api.Tail, api.Empty}[b.Below(3)]
		b.with([]string{one, t, "b"}[kind-api.Head], code.Part, int(kind), 0)
	case t[0] == 'x' && b.Below(3) > 0:
		b.cell(one)
	default:
		b.grown(t)
	}
}

func (b *body) cell(t string) {
	if b.Coin() {
		b.without()
		b.with(t, code.Get, 0, 0)
		return
	}
	b.want(t)
	b.without()
	b.without()
	b.with(t, code.Set, 0, 0)
}

// grown makes something greater of what lies there.
func (b *body) grown(t string) {
	if len(t) > 12 {
		b.let()
		return
	}
	switch b.Below(4) {
	case 0:
		if under := b.top(2); under != "-" && len(under) < 12 {
			b.pair()
		}
	case 1:
		n := 1
		for n < 5 && b.top(n+1) == t {
			n++
		}
		b.list(n, t)
	case 2:
		b.want("l" + t)
		b.without()
		b.without()
		b.with("l"+t, code.Cons, 0, 0)
	case 3:
		b.without()
		b.with("x"+t, code.Box, 0, 0)
	}
}

// finish ends a way through the function, by a return or by a call.
func (b *body) finish() {
	t, calls := b.result(), b.room > 0 && b.Coin()
	if calls {
		b.finishByCall(t)
		return
	}
	if b.top(1) != t {
		b.want(t)
	}
	b.alone(1)
	b.lay(code.Ret, 0, 0)
}

// alone leaves so many on the stack, the rest in the row.
func (b *body) alone(n int) {
	if len(b.stack) == n {
		return
	}
	latest := slices.Clone(b.stack[len(b.stack)-n:])
	for len(b.stack) > 0 {
		b.let()
	}
	for i := range latest {
		b.with(latest[i], code.Local, slices.Index(b.row, latest[i]), 0)
	}
}

func (b *body) finishByCall(t string) {
	var casts []int
	for b.Below(3) == 0 && len(casts) < 3 {
		from := b.Near(t)
		if len(from) > 12 {
			from = t
		}
		casts = append(casts, CastPlace(&b.c, from, t, b.Label()))
		t = from
	}
	param := b.Typ(2)
	for len(b.stack) > 0 {
		b.let()
	}
	b.want(">" + param + t)
	b.want(param)
	for _, a := range casts {
		b.lay(code.Pend, a, 0)
	}
	b.lay(code.Tail, 0, 0)
}
