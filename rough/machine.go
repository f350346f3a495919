package rough

import (
	"slices"
	"strconv"

	"culprit/api"
	"culprit/code"
	"culprit/sample"
	"culprit/value"
)

// closure, cell: what the values of functions and boxes have.
type closure struct {
	fn   int
	over []value.Value // the latest first
}

type cell struct{ has value.Value }

// frame is a return, or what is done to a value on its way out.
type frame struct {
	fn, at     int
	row, stack []value.Value
	out        func(value.Value) (value.Value, int64, api.Errno)
}

// Machine runs code in the plainest way: what waits is not merged, but stands one on the other.
type Machine struct {
	Code  api.Code
	Each  func(m *Machine) // what is called ahead of each instruction, if anything is
	Fuel  int
	Steps int
	Place
	Row, Stack []value.Value // the nearest first; the latest last
	Returns    int           // how many wait
	frames     []frame
}

// over is what a run ends with, other than a value.
type over string

func (m *Machine) must(label int64, e api.Errno) {
	switch e {
	case api.OK:
	case api.ErrBlame:
		panic(over("blame" + strconv.FormatInt(label, 10)))
	case api.ErrGone:
		panic(over("fault" + strconv.Itoa(int(e))))
	default:
		panic(over("stuck in " + strconv.Itoa(m.Fn) + " at " + strconv.Itoa(m.At)))
	}
}

func (m *Machine) good(v value.Value, label int64, e api.Errno) {
	m.must(label, e)
	m.lay(v)
}

func (m *Machine) lay(v value.Value) { m.Stack = append(m.Stack, v) }

func (m *Machine) take() value.Value {
	v := m.Stack[len(m.Stack)-1]
	m.Stack = m.Stack[:len(m.Stack)-1]
	return v
}

func (m *Machine) step() {
	if m.Steps == m.Fuel {
		panic(over("fuel"))
	}
	m.Steps++
}

// Run answers what is seen, in words, and the steps.
func Run(c api.Code, fuel, depth int) (seen string, steps int) {
	m := Machine{Code: c, Fuel: fuel}
	return m.Run(depth), m.Steps
}

// Run runs the code from its beginning.
func (m *Machine) Run(depth int) (seen string) {
	defer func() {
		if thrown := recover(); thrown != nil {
			said, ours := thrown.(over)
			if !ours {
				panic(thrown)
			}
			seen = string(said)
		}
	}()
	for {
		if m.Each != nil {
			m.Each(m)
		}
		i := m.Code.Functions[m.Fn].Code[m.At]
		m.At++
		if v, ended := m.one(i.Op, i.A); ended {
			return sample.Told(value.Seen(v, depth))
		}
	}
}

func (m *Machine) one(op int8, a int) (value.Value, bool) {
	switch op {
	case code.Call, code.Tail, code.Op, code.Pair, code.Part, code.List, code.Cons, code.Box, code.Get, code.Set, code.Unless:
		m.step()
	}
	switch op {
	case code.Ret:
		return m.leave(m.take())
	case code.Call, code.Tail:
		m.call(op == code.Call)
	case code.Jump:
		m.At = a
	case code.Unless:
		b, e := value.AsTruth(m.take())
		m.must(0, e)
		if !b {
			m.At = a
		}
	case code.Let:
		m.Row = append([]value.Value{m.take()}, m.Row...)
	case code.End:
		m.Row = m.Row[1:]
	case code.Fn, code.Rec:
		m.close(op == code.Rec, a)
	case code.Cast:
		m.good(value.Coerce(m.take(), m.Code.Casts[a].Co))
	case code.Pend:
		m.frames = append(m.frames, frame{out: func(v value.Value) (value.Value, int64, api.Errno) { return value.Coerce(v, m.Code.Casts[a].Co) }})
	default:
		m.plain(op, a)
	}
	return nil, false
}

func (m *Machine) close(itself bool, fn int) {
	f := &closure{fn: fn, over: m.Row}
	v := value.Fun(f)
	if itself {
		f.over = append([]value.Value{v}, m.Row...)
	}
	m.lay(v)
}

func (m *Machine) call(comesBack bool) {
	x, f := m.take(), m.take()
	has, e := value.Code(f)
	m.must(0, e)
	arg, label, e := value.Arg(f, x)
	m.must(label, e)
	if comesBack {
		m.frames = append(m.frames, frame{fn: m.Fn, at: m.At, row: m.Row, stack: m.Stack})
		m.Returns++
	}
	m.frames = append(m.frames, frame{out: func(v value.Value) (value.Value, int64, api.Errno) { return value.Res(f, v) }})
	body := has.(*closure)
	m.Place, m.Stack = Place{body.fn, 0}, nil
	m.Row = append([]value.Value{arg}, body.over...)
}

// leave goes out through the frames, to the latest return, or to the end.
func (m *Machine) leave(v value.Value) (value.Value, bool) {
	for len(m.frames) > 0 {
		last := m.frames[len(m.frames)-1]
		m.frames = m.frames[:len(m.frames)-1]
		if last.out == nil {
			m.Place, m.Row, m.Stack = Place{last.fn, last.at}, last.row, slices.Clone(last.stack)
			m.Returns--
			m.lay(v)
			return nil, false
		}
		var label int64
		var e api.Errno
		v, label, e = last.out(v)
		m.must(label, e)
	}
	return v, true
}

func (m *Machine) plain(op int8, a int) {
	switch op {
	case code.Push:
		m.lay(value.Num(m.Code.Nums[a]))
	case code.Text:
		m.lay(value.Text(m.Code.Texts[a]))
	case code.Truth:
		m.lay(value.Truth(a == 1))
	case code.Local:
		m.lay(m.Row[a])
	case code.Pair:
		second, first := m.take(), m.take()
		m.lay(value.Pair(first, second))
	case code.List:
		l := value.Nil()
		for range a {
			l = value.Cons(m.take(), l)
		}
		m.lay(l)
	case code.Cons:
		rest, first := m.take(), m.take()
		_, e := value.IsEmpty(rest)
		m.must(0, e)
		m.lay(value.Cons(first, rest))
	case code.Part:
		m.part(int8(a))
	case code.Op:
		m.operation(int8(a))
	default:
		m.box(op)
	}
}

func (m *Machine) box(op int8) {
	switch op {
	case code.Box:
		m.lay(value.Box(&cell{m.take()}))
	case code.Get:
		b := m.take()
		has, e := value.Cell(b)
		m.must(0, e)
		m.good(value.Read(b, has.(*cell).has))
	case code.Set:
		v, b := m.take(), m.take()
		has, e := value.Cell(b)
		m.must(0, e)
		in, label, e := value.Write(b, v)
		m.must(label, e)
		has.(*cell).has = in
		m.lay(v)
	}
}

func (m *Machine) part(kind int8) {
	switch kind {
	case api.First:
		m.good(value.First(m.take()))
	case api.Second:
		m.good(value.Second(m.take()))
	case api.Head:
		m.good(value.Head(m.take()))
	case api.Tail:
		m.good(value.Tail(m.take()))
	case api.Empty:
		none, e := value.IsEmpty(m.take())
		m.must(0, e)
		m.lay(value.Truth(none))
	}
}

func (m *Machine) number() int64 {
	n, e := value.AsNum(m.take())
	m.must(0, e)
	return n
}

func (m *Machine) text() string {
	s, e := value.AsText(m.take())
	m.must(0, e)
	return s
}

func (m *Machine) operation(kind int8) {
	switch kind {
	case api.Join:
		other := m.text()
		all := m.text() + other
		if len(all) > api.MaxBytes {
			panic(over("fault35"))
		}
		m.lay(value.Text(all))
		return
	case api.Size:
		m.lay(value.Num(int64(len(m.text()))))
		return
	case api.Neg:
		m.lay(value.Num(-m.number()))
		return
	}
	y := m.number()
	x := m.number()
	switch kind {
	case api.Add:
		m.lay(value.Num(x + y))
	case api.Sub:
		m.lay(value.Num(x - y))
	case api.Mul:
		m.lay(value.Num(x * y))
	case api.Eq:
		m.lay(value.Truth(x == y))
	case api.Less:
		m.lay(value.Truth(x < y))
	}
}
