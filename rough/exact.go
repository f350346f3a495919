package rough

import (
	"slices"

	"culprit/api"
	"culprit/code"
	"culprit/coerce"
	"culprit/value"
)

// Exact follows chapter 21 by its words, in any code: what waits is merged, and what is not as the instructions want it is told.
type Exact struct {
	Code api.Code
	Fuel int
	Place
	Row, Stack []value.Value // the nearest first; the latest last
	Frames     []Frame       // the latest last
	Each       func(m *Exact)
	most       api.Result
	next       int
}

// Frame is a return, or a coercion that waits.
type Frame struct {
	Co []api.Co // of a coercion
	Place
	Row, Stack []value.Value
}

// Waits tells whether a frame is a coercion.
func (f Frame) Waits() bool { return f.Co != nil }

type (
	end    struct{ seen []api.Obs }
	caught struct{ e api.Errno }
)

// Loose answers what run.Loose is to answer.
func Loose(c api.Code, fuel, depth int) (api.Result, api.Trap) {
	m := Exact{Code: c, Fuel: fuel}
	return m.Loose(depth)
}

// Loose runs the code from its beginning.
func (m *Exact) Loose(depth int) (r api.Result, trap api.Trap) {
	switch {
	case m.Fuel < 0, m.Fuel > api.MaxFuel, depth < 0, depth > api.MaxObs:
		return r, api.Trap{Err: api.ErrArg, At: -1}
	case len(m.Code.Functions) == 0:
		return r, api.Trap{Err: api.ErrFn, At: -1}
	}
	defer func() {
		switch x := recover().(type) {
		case end:
			r = m.most
			r.Seen = x.seen
		case caught:
			trap = api.Trap{Err: x.e, Fn: m.Fn, At: m.At}
		default:
			panic(x)
		}
	}()
	for {
		if m.Each != nil {
			m.Each(m)
		}
		i := m.ask()
		switch i.Op {
		case code.Call, code.Tail, code.Unless, code.Op, code.Pair, code.Cons, code.Box, code.List, code.Part, code.Get, code.Set:
			if m.most.Steps >= m.Fuel {
				panic(end{[]api.Obs{{Kind: api.OFuel}}})
			}
			m.most.Steps++
		}
		m.next = m.At + 1
		m.do(i, depth)
		m.At = m.next
	}
}

func wants(holds bool, e api.Errno) {
	if !holds {
		panic(caught{e})
	}
}

// ask asks all that is asked ahead of what an instruction does.
func (m *Exact) ask() api.Ins {
	all := m.Code.Functions[m.Fn].Code
	wants(m.At < len(all), api.ErrEnd)
	i := all[m.At]
	between := func(e api.Errno, n, low, high int) { wants(low <= n && n < high, e) }
	takes := 0
	switch i.Op {
	case code.Push:
		between(api.ErrOp, i.A, 0, len(m.Code.Nums))
	case code.Text:
		between(api.ErrOp, i.A, 0, len(m.Code.Texts))
	case code.Truth:
		between(api.ErrOp, i.A, 0, 2)
	case code.Local:
		between(api.ErrLocal, i.A, 0, len(m.Row))
	case code.Fn, code.Rec:
		between(api.ErrFn, i.A, 1, len(m.Code.Functions))
	case code.Jump:
		between(api.ErrEnd, i.A, m.At+1, len(all))
	case code.Unless:
		between(api.ErrEnd, i.A, m.At+1, len(all))
		takes = 1
	case code.Op:
		between(api.ErrOp, i.A, 10, 18)
		takes = []int{2, 2, 2, 2, 2, 2, 1, 1}[i.A-10]
	case code.Part:
		wants(slices.Contains([]int{19, 20, 22, 23, 24}, i.A), api.ErrOp)
		takes = 1
	case code.List:
		wants(i.A >= 0, api.ErrOp)
		between(api.ErrOp, i.B, 0, len(m.Code.Types))
		takes = i.A
	case code.Cast:
		between(api.ErrCast, i.A, 0, len(m.Code.Casts))
		takes = 1
	case code.Pend:
		between(api.ErrCast, i.A, 0, len(m.Code.Casts))
	case code.Ret, code.Let, code.Box, code.Get:
		takes = 1
	case code.Call, code.Tail, code.Pair, code.Cons, code.Set:
		takes = 2
	case code.End:
	default:
		wants(false, api.ErrOp)
	}
	wants(len(m.Stack) >= takes, api.ErrStack)
	wants(i.Op != code.End || len(m.Row) > 0, api.ErrRow)
	if i.Op == code.Cast || i.Op == code.Pend {
		wants(coerce.May(m.Code.Casts[i.A].Co), api.ErrCast)
	}
	return i
}

func (m *Exact) take() value.Value {
	v := m.Stack[len(m.Stack)-1]
	m.Stack = slices.Clone(m.Stack[:len(m.Stack)-1])
	return v
}

func (m *Exact) lay(v value.Value) { m.Stack = append(slices.Clone(m.Stack), v) }

// good answers what a call of value answered.
func (m *Exact) good(v value.Value, label int64, e api.Errno) value.Value {
	switch e {
	case api.OK:
	case api.ErrBlame:
		panic(end{[]api.Obs{{Kind: api.OBlame, N: label}}})
	case api.ErrStuck:
		panic(caught{api.ErrKind})
	default:
		panic(end{[]api.Obs{{Kind: api.OFault, N: int64(e)}}})
	}
	return v
}

func known[T any](x T, e api.Errno) T {
	wants(e == api.OK, api.ErrKind)
	return x
}

func (m *Exact) do(i api.Ins, depth int) {
	switch i.Op {
	case code.Fn:
		m.lay(value.Fun(&closure{fn: i.A, over: m.Row}))
	case code.Rec:
		f := &closure{fn: i.A}
		v := value.Fun(f)
		f.over = append([]value.Value{v}, m.Row...)
		m.lay(v)
	case code.Call, code.Tail:
		m.call(i.Op == code.Call)
	case code.Ret:
		m.ret(depth)
	case code.Jump:
		m.next = i.A
	case code.Unless:
		if !known(value.AsTruth(m.take())) {
			m.next = i.A
		}
	case code.Let:
		m.Row = append([]value.Value{m.take()}, m.Row...)
	case code.End:
		m.Row = m.Row[1:]
	case code.Cast:
		m.lay(m.good(value.Coerce(m.take(), m.Code.Casts[i.A].Co)))
	case code.Pend:
		m.wait(m.Code.Casts[i.A].Co)
	default:
		m.make(i)
	}
}

func (m *Exact) wait(c []api.Co) {
	if coerce.IsId(c) {
		return
	}
	last := len(m.Frames) - 1
	if last >= 0 && m.Frames[last].Waits() {
		both, e := coerce.Then(c, m.Frames[last].Co)
		wants(e == api.OK, api.ErrCast)
		m.Frames = m.Frames[:last]
		c = both
		if coerce.IsId(c) {
			return
		}
	}
	m.Frames = append(m.Frames, Frame{Co: c})
	m.count()
}

// count counts all frames that there are now.
func (m *Exact) count() {
	waits := 0
	for _, f := range m.Frames {
		if f.Waits() {
			waits++
		}
	}
	m.most.Casts = max(m.most.Casts, waits)
	m.most.Frames = max(m.most.Frames, len(m.Frames)-waits)
}

func (m *Exact) call(comesBack bool) {
	x, f := m.take(), m.take()
	body, ours := known(value.Code(f)).(*closure)
	wants(ours, api.ErrKind)
	x = m.good(value.Arg(f, x))
	if comesBack {
		m.Frames = append(m.Frames, Frame{Place: Place{m.Fn, m.At + 1}, Row: m.Row, Stack: m.Stack})
		m.count()
	}
	if c, _, wrapped := value.Wrap(f); wrapped {
		m.wait(kids(c)[1])
	}
	m.Fn, m.next, m.Stack = body.fn, 0, nil
	m.Row = append([]value.Value{x}, body.over...)
}

// kids answers the kids of a coercion: each is a shortest list that is whole.
func kids(c []api.Co) (all [][]api.Co) {
	for rest := c[1:]; len(rest) > 0; {
		n := 1
		for code.Height(api.Code{Casts: []api.Waits{{Co: rest[:n]}}}) == 0 {
			n++
		}
		all, rest = append(all, rest[:n]), rest[n:]
	}
	return all
}

func (m *Exact) ret(depth int) {
	v := m.take()
	for {
		if len(m.Frames) == 0 {
			panic(end{value.Seen(v, depth)})
		}
		last := m.Frames[len(m.Frames)-1]
		m.Frames = m.Frames[:len(m.Frames)-1]
		if !last.Waits() {
			m.Fn, m.next, m.Row, m.Stack = last.Fn, last.At, last.Row, last.Stack
			m.lay(v)
			return
		}
		v = m.good(value.Coerce(v, last.Co))
	}
}

// make does what takes values and lays one.
func (m *Exact) make(i api.Ins) {
	switch i.Op {
	case code.Push:
		m.lay(value.Num(m.Code.Nums[i.A]))
	case code.Text:
		m.lay(value.Text(m.Code.Texts[i.A]))
	case code.Truth:
		m.lay(value.Truth(i.A != 0))
	case code.Local:
		m.lay(m.Row[i.A])
	case code.Op:
		m.operation(int8(i.A))
	case code.Pair:
		second, first := m.take(), m.take()
		m.lay(value.Pair(first, second))
	case code.Cons:
		rest, first := m.take(), m.take()
		known(value.IsEmpty(rest))
		m.lay(value.Cons(first, rest))
	case code.List:
		l := value.Nil()
		for range i.A {
			l = value.Cons(m.take(), l)
		}
		m.lay(l)
	case code.Part:
		m.part(int8(i.A))
	case code.Box:
		m.lay(value.Box(&cell{m.take()}))
	case code.Get:
		b := m.take()
		m.lay(m.good(value.Read(b, known(value.Cell(b)).(*cell).has)))
	case code.Set:
		v, b := m.take(), m.take()
		c := known(value.Cell(b)).(*cell)
		c.has = m.good(value.Write(b, v))
		m.lay(v)
	}
}

func (m *Exact) part(kind int8) {
	v := m.take()
	switch kind {
	case api.First:
		m.lay(m.good(value.First(v)))
	case api.Second:
		m.lay(m.good(value.Second(v)))
	case api.Head:
		m.lay(m.good(value.Head(v)))
	case api.Tail:
		m.lay(m.good(value.Tail(v)))
	case api.Empty:
		m.lay(value.Truth(known(value.IsEmpty(v))))
	}
}

func (m *Exact) operation(kind int8) {
	num := func() int64 { return known(value.AsNum(m.take())) }
	text := func() string { return known(value.AsText(m.take())) }
	switch kind {
	case api.Join:
		y := text()
		x := text()
		if len(x+y) > api.MaxBytes {
			panic(end{[]api.Obs{{Kind: api.OFault, N: int64(api.ErrJoin)}}})
		}
		m.lay(value.Text(x + y))
	case api.Size:
		m.lay(value.Num(int64(len(text()))))
	case api.Neg:
		m.lay(value.Num(-num()))
	default:
		y := num()
		x := num()
		m.lay([]value.Value{
			value.Num(x + y), value.Num(x - y), value.Num(x * y), nil, value.Truth(x == y), value.Truth(x < y),
		}[kind-api.Add])
	}
}
