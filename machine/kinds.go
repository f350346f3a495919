package machine

import (
	"culprit/api"
	"culprit/coerce"
	"culprit/value"
)

// cell is what a box has.
type cell struct{ has value.Value }

func (m *machine) push(i api.Ins) { m.lay(value.Num(m.code.Nums[i.A])) }

func (m *machine) text(i api.Ins) { m.lay(value.Text(m.code.Texts[i.A])) }

func (m *machine) truth(i api.Ins) { m.lay(value.Truth(i.A == 1)) }

func (m *machine) local(i api.Ins) { m.lay(m.row.at(i.A)) }

func (m *machine) jump(i api.Ins) { m.next = i.A }

func (m *machine) unless(i api.Ins) {
	b, e := value.AsTruth(m.take())
	m.must(e == api.OK, api.ErrKind)
	if !b {
		m.next = i.A
	}
}

func (m *machine) let(api.Ins) { m.row = m.row.with(m.take()) }

func (m *machine) hasRow(api.Ins) { m.must(m.row.size() > 0, api.ErrRow) }

func (m *machine) end(api.Ins) { m.row = m.row.rest }

func (m *machine) pair(api.Ins) {
	second, first := m.take(), m.take()
	m.lay(value.Pair(first, second))
}

func (m *machine) list(i api.Ins) {
	l := value.Nil()
	for range i.A {
		l = value.Cons(m.take(), l)
	}
	m.lay(l)
}

// cons asks for a list itself: package value makes a list of any rest, and would be stuck only where that is looked at.
func (m *machine) cons(api.Ins) {
	rest, first := m.take(), m.take()
	_, e := value.IsEmpty(rest)
	m.must(e == api.OK, api.ErrKind)
	m.lay(value.Cons(first, rest))
}

func (m *machine) part(i api.Ins) {
	v := m.take()
	switch int8(i.A) {
	case api.First:
		m.layGood(value.First(v))
	case api.Second:
		m.layGood(value.Second(v))
	case api.Head:
		m.layGood(value.Head(v))
	case api.Tail:
		m.layGood(value.Tail(v))
	case api.Empty:
		none, e := value.IsEmpty(v)
		m.must(e == api.OK, api.ErrKind)
		m.lay(value.Truth(none))
	}
}

func (m *machine) box(api.Ins) { m.lay(value.Box(&cell{m.take()})) }

func (m *machine) get(api.Ins) {
	b := m.take()
	m.layGood(value.Read(b, m.cellOf(b).has))
}

// set lays the value as it was handed in, not as the box's wrapper made it.
func (m *machine) set(api.Ins) {
	v, b := m.take(), m.take()
	c := m.cellOf(b)
	c.has = m.good(value.Write(b, v))
	m.lay(v)
}

func (m *machine) cellOf(b value.Value) *cell {
	has, e := value.Cell(b)
	m.must(e == api.OK, api.ErrKind)
	c, ours := has.(*cell)
	m.must(ours, api.ErrKind)
	return c
}

func (m *machine) mayCoerce(i api.Ins) { m.must(coerce.May(m.code.Casts[i.A].Co), api.ErrCast) }

func (m *machine) cast(i api.Ins) { m.layGood(value.Coerce(m.take(), m.code.Casts[i.A].Co)) }

// operands tells how many values an operation takes.
func operands(kind int) int {
	switch int8(kind) {
	case api.Neg, api.Size:
		return 1
	}
	return 2
}

func (m *machine) operation(i api.Ins) {
	switch kind := int8(i.A); kind {
	case api.Neg:
		m.lay(value.Num(-m.takeNum()))
	case api.Size:
		m.lay(value.Num(int64(len(m.takeText()))))
	case api.Join:
		m.join()
	default:
		y, x := m.takeNum(), m.takeNum()
		m.lay(ofNumbers(kind, x, y))
	}
}

func ofNumbers(kind int8, x, y int64) value.Value {
	switch kind {
	case api.Add:
		return value.Num(x + y)
	case api.Sub:
		return value.Num(x - y)
	case api.Mul:
		return value.Num(x * y)
	case api.Eq:
		return value.Truth(x == y)
	}
	return value.Truth(x < y)
}

func (m *machine) join() {
	y, x := m.takeText(), m.takeText()
	if len(x)+len(y) > api.MaxBytes {
		panic(faulted{api.ErrJoin})
	}
	m.lay(value.Text(x + y))
}

func (m *machine) takeNum() int64 {
	n, e := value.AsNum(m.take())
	m.must(e == api.OK, api.ErrKind)
	return n
}

func (m *machine) takeText() string {
	s, e := value.AsText(m.take())
	m.must(e == api.OK, api.ErrKind)
	return s
}
