package emit_test

import (
	"slices"
	"strconv"

	"culprit/api"
	"culprit/sample"
	"culprit/value"
)

// closure, cell: what the values of functions and boxes have.
type closure struct {
	fn   int
	over []value.Value // the latest first
}

type cell struct{ has value.Value }

// frame is a return, or what is done to a value on its way out.
type frame struct {
	fn, at     int
	row, stack []value.Value
	out        func(value.Value) (value.Value, int64, api.Errno)
}

// machine runs code in the plainest way: what waits is not merged, but stands one on the other.
type machine struct {
	c           api.Code
	fn, at      int
	row, stack  []value.Value // the nearest first; the latest last
	frames      []frame
	steps, fuel int
}

// over is what a run ends with, other than a value.
type over string

func (m *machine) must(label int64, e api.Errno) {
	switch e {
	case api.OK:
	case api.ErrBlame:
		panic(over("blame" + strconv.FormatInt(label, 10)))
	case api.ErrGone:
		panic(over("fault" + strconv.Itoa(int(e))))
	default:
		panic(over("stuck in " + strconv.Itoa(m.fn) + " at " + strconv.Itoa(m.at)))
	}
}

func (m *machine) good(v value.Value, label int64, e api.Errno) {
	m.must(label, e)
	m.lay(v)
}

func (m *machine) lay(v value.Value) { m.stack = append(m.stack, v) }

func (m *machine) take() value.Value {
	v := m.stack[len(m.stack)-1]
	m.stack = m.stack[:len(m.stack)-1]
	return v
}

func (m *machine) step() {
	if m.steps == m.fuel {
		panic(over("fuel"))
	}
	m.steps++
}

// run answers what is seen, in words, and the steps.
func run(c api.Code, fuel, depth int) (seen string, steps int) {
	m := machine{c: c, fuel: fuel}
	defer func() {
		if thrown := recover(); thrown != nil {
			seen, steps = string(thrown.(over)), m.steps
		}
	}()
	for {
		i := m.c.Functions[m.fn].Code[m.at]
		m.at++
		if v, ended := m.one(ops[i.Op], i.A); ended {
			return sample.Told(value.Seen(v, depth)), m.steps
		}
	}
}

func (m *machine) one(op string, a int) (value.Value, bool) {
	switch op {
	case "call", "op", "pair", "part", "list", "cons", "box", "get", "set", "tail", "unless":
		m.step()
	}
	switch op {
	case "ret":
		return m.leave(m.take())
	case "call", "tail":
		m.call(op)
	case "jump":
		m.at = a
	case "unless":
		b, e := value.AsTruth(m.take())
		m.must(0, e)
		if !b {
			m.at = a
		}
	case "let":
		m.row = append([]value.Value{m.take()}, m.row...)
	case "end":
		m.row = m.row[1:]
	case "fn", "rec":
		f := &closure{fn: a, over: m.row}
		v := value.Fun(f)
		if op == "rec" {
			f.over = append([]value.Value{v}, m.row...)
		}
		m.lay(v)
	case "cast":
		m.good(value.Coerce(m.take(), m.c.Casts[a].Co))
	case "pend":
		m.frames = append(m.frames, frame{out: func(v value.Value) (value.Value, int64, api.Errno) { return value.Coerce(v, m.c.Casts[a].Co) }})
	default:
		m.plain(op, a)
	}
	return nil, false
}

func (m *machine) call(op string) {
	x, f := m.take(), m.take()
	has, e := value.Code(f)
	m.must(0, e)
	arg, label, e := value.Arg(f, x)
	m.must(label, e)
	if op == "call" {
		m.frames = append(m.frames, frame{fn: m.fn, at: m.at, row: m.row, stack: m.stack})
	}
	m.frames = append(m.frames, frame{out: func(v value.Value) (value.Value, int64, api.Errno) { return value.Res(f, v) }})
	body := has.(*closure)
	m.fn, m.at, m.stack = body.fn, 0, nil
	m.row = append([]value.Value{arg}, body.over...)
}

// leave goes out through the frames, to the latest return, or to the end.
func (m *machine) leave(v value.Value) (value.Value, bool) {
	for len(m.frames) > 0 {
		last := m.frames[len(m.frames)-1]
		m.frames = m.frames[:len(m.frames)-1]
		if last.out == nil {
			m.fn, m.at, m.row, m.stack = last.fn, last.at, last.row, slices.Clone(last.stack)
			m.lay(v)
			return nil, false
		}
		var label int64
		var e api.Errno
		v, label, e = last.out(v)
		m.must(label, e)
	}
	return v, true
}

func (m *machine) plain(op string, a int) {
	switch op {
	case "push":
		m.lay(value.Num(m.c.Nums[a]))
	case "text":
		m.lay(value.Text(m.c.Texts[a]))
	case "truth":
		m.lay(value.Truth(a == 1))
	case "local":
		m.lay(m.row[a])
	case "pair":
		second, first := m.take(), m.take()
		m.lay(value.Pair(first, second))
	case "list":
		l := value.Nil()
		for range a {
			l = value.Cons(m.take(), l)
		}
		m.lay(l)
	case "cons":
		rest, first := m.take(), m.take()
		m.lay(value.Cons(first, rest))
	case "part":
		m.part(int8(a))
	case "box":
		m.lay(value.Box(&cell{m.take()}))
	case "get":
		b := m.take()
		has, e := value.Cell(b)
		m.must(0, e)
		m.good(value.Read(b, has.(*cell).has))
	case "set":
		v, b := m.take(), m.take()
		has, e := value.Cell(b)
		m.must(0, e)
		in, label, e := value.Write(b, v)
		m.must(label, e)
		has.(*cell).has = in
		m.lay(v)
	case "op":
		m.operation(int8(a))
	}
}

func (m *machine) part(kind int8) {
	switch kind {
	case api.First:
		m.good(value.First(m.take()))
	case api.Second:
		m.good(value.Second(m.take()))
	case api.Head:
		m.good(value.Head(m.take()))
	case api.Tail:
		m.good(value.Tail(m.take()))
	case api.Empty:
		none, e := value.IsEmpty(m.take())
		m.must(0, e)
		m.lay(value.Truth(none))
	}
}

func (m *machine) operation(kind int8) {
	num := func() int64 {
		n, e := value.AsNum(m.take())
		m.must(0, e)
		return n
	}
	text := func() string {
		s, e := value.AsText(m.take())
		m.must(0, e)
		return s
	}
	switch kind {
	case api.Join:
		other := text()
		all := text() + other
		if len(all) > api.MaxBytes {
			panic(over("fault35"))
		}
		m.lay(value.Text(all))
		return
	case api.Size:
		m.lay(value.Num(int64(len(text()))))
		return
	case api.Neg:
		m.lay(value.Num(-num()))
		return
	}
	y := num()
	x := num()
	switch kind {
	case api.Add:
		m.lay(value.Num(x + y))
	case api.Sub:
		m.lay(value.Num(x - y))
	case api.Mul:
		m.lay(value.Num(x * y))
	case api.Eq:
		m.lay(value.Truth(x == y))
	case api.Less:
		m.lay(value.Truth(x < y))
	}
}
