package steps

import (
	"culprit/api"
	"culprit/value"
)

// works answers what each kind of node does when the kids that are run ahead of it have given what they give, the last one's on top.
func (m *Machine) works() map[int8]func(here) {
	return map[int8]func(here){
		api.Num: m.num, api.Str: m.str, api.Truth: m.truth, api.Var: m.variable,
		api.Fn: m.fn, api.Rec: m.rec, api.Call: m.call, api.Let: m.let, api.If: m.choice, api.Cast: m.cast,
		api.Add: m.add, api.Sub: m.sub, api.Mul: m.mul, api.Neg: m.neg,
		api.Eq: m.eq, api.Less: m.less, api.Join: m.join, api.Size: m.size,
		api.Pair: m.pair, api.First: m.first, api.Second: m.second,
		api.List: m.list, api.Cons: m.cons, api.Head: m.head, api.Tail: m.tail, api.Empty: m.empty,
		api.Box: m.box, api.Get: m.get, api.Set: m.set,
	}
}

func (m *Machine) num(n here) { m.give(value.Num(m.term[n.at].N)) }

func (m *Machine) str(n here) { m.give(value.Text(m.term[n.at].S)) }

func (m *Machine) truth(n here) { m.give(value.Truth(m.term[n.at].N != 0)) }

func (m *Machine) variable(n here) {
	v := n.scope.look(m.term[n.at].N)
	if v == nil {
		panic(stuck{n.at})
	}
	m.give(v)
}

func (m *Machine) cast(n here) { m.giveGood(m.casts(m.take(), n.at)) }

func (m *Machine) fn(n here) {
	m.give(value.Fun(code(func(x value.Value) {
		m.later(here{n.at + 1, n.scope.bind(x)}, (*Machine).visit)
	})))
}

// rec gives a function that finds itself, not as it is called through wrappers, but bare.
func (m *Machine) rec(n here) {
	var self value.Value
	self = value.Fun(code(func(x value.Value) {
		m.later(here{n.at + 1, n.scope.bind(self).bind(x)}, (*Machine).visit)
	}))
	m.give(self)
}

// call has the body run, and then what it gave go out through the function's wrappers.
func (m *Machine) call(n here) {
	x, f := m.take(), m.take()
	has, e := value.Code(f)
	m.must(0, e)
	body, ok := has.(code)
	if !ok {
		panic(stuck{n.at})
	}
	arg, label, e := value.Arg(f, x)
	m.must(label, e)
	m.later(n, func(m *Machine, _ here) { m.giveGood(value.Res(f, m.take())) })
	body(arg)
}

func (m *Machine) let(n here) {
	m.later(here{m.ends[n.at+1], n.scope.bind(m.take())}, (*Machine).visit)
}

func (m *Machine) choice(n here) {
	part := m.ends[n.at+1]
	if !m.takeTruth() {
		part = m.ends[part]
	}
	m.later(here{part, n.scope}, (*Machine).visit)
}

func (m *Machine) add(here) {
	x, y := m.takeNums()
	m.give(value.Num(x + y))
}

func (m *Machine) sub(here) {
	x, y := m.takeNums()
	m.give(value.Num(x - y))
}

func (m *Machine) mul(here) {
	x, y := m.takeNums()
	m.give(value.Num(x * y))
}

func (m *Machine) neg(here) { m.give(value.Num(-m.takeNum())) }

func (m *Machine) eq(here) {
	x, y := m.takeNums()
	m.give(value.Truth(x == y))
}

func (m *Machine) less(here) {
	x, y := m.takeNums()
	m.give(value.Truth(x < y))
}

func (m *Machine) join(here) {
	y, x := m.takeText(), m.takeText()
	if len(x)+len(y) > api.MaxBytes {
		panic(faulted{api.ErrJoin})
	}
	m.give(value.Text(x + y))
}

func (m *Machine) size(here) { m.give(value.Num(int64(len(m.takeText())))) }

func (m *Machine) pair(here) {
	second, first := m.take(), m.take()
	m.give(value.Pair(first, second))
}

func (m *Machine) first(here) { m.giveGood(value.First(m.take())) }

func (m *Machine) second(here) { m.giveGood(value.Second(m.take())) }

func (m *Machine) list(n here) {
	l := value.Nil()
	for range m.term[n.at].Kids {
		l = value.Cons(m.take(), l)
	}
	m.give(l)
}

func (m *Machine) cons(here) {
	rest, first := m.take(), m.take()
	m.give(value.Cons(first, rest))
}

func (m *Machine) head(here) { m.giveGood(value.Head(m.take())) }

func (m *Machine) tail(here) { m.giveGood(value.Tail(m.take())) }

func (m *Machine) empty(here) {
	none, e := value.IsEmpty(m.take())
	m.must(0, e)
	m.give(value.Truth(none))
}

func (m *Machine) box(here) {
	b, e := m.heap.Make(m.take())
	m.giveGood(b, 0, e)
}

func (m *Machine) get(here) { m.giveGood(m.heap.Get(m.take())) }

// set gives the value as it was handed in, not as the box's wrappers made it.
func (m *Machine) set(here) {
	v, b := m.take(), m.take()
	label, e := m.heap.Set(b, v)
	m.must(label, e)
	m.give(v)
}

func (m *Machine) takeNum() int64 {
	n, e := value.AsNum(m.take())
	m.must(0, e)
	return n
}

// takeNums answers the two numbers that were given last, in their order.
func (m *Machine) takeNums() (x, y int64) {
	y = m.takeNum()
	return m.takeNum(), y
}

func (m *Machine) takeText() string {
	s, e := value.AsText(m.take())
	m.must(0, e)
	return s
}

func (m *Machine) takeTruth() bool {
	b, e := value.AsTruth(m.take())
	m.must(0, e)
	return b
}
