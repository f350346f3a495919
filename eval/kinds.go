package eval

import (
	"culprit/api"
	"culprit/value"
)

// works answers what each kind of node does when the kids that are run ahead of it have given what they give, the last one's on top.
func (m *machine) works() map[int8]func(here) {
	return map[int8]func(here){
		api.Num: m.num, api.Str: m.str, api.Truth: m.truth, api.Var: m.variable,
		api.Fn: m.fn, api.Rec: m.rec, api.Call: m.call, api.Let: m.let, api.If: m.choice, api.Cast: m.cast,
		api.Add: m.add, api.Sub: m.sub, api.Mul: m.mul, api.Neg: m.neg,
		api.Eq: m.eq, api.Less: m.less, api.Join: m.join, api.Size: m.size,
		api.Pair: m.pair, api.First: m.first, api.Second: m.second,
		api.List: m.list, api.Cons: m.cons, api.Head: m.head, api.Tail: m.tail, api.Empty: m.empty,
		api.Box: m.box, api.Get: m.get, api.Set: m.set,
	}
}

func (m *machine) num(n here) { m.give(value.Num(m.term[n.at].N)) }

func (m *machine) str(n here) { m.give(value.Text(m.term[n.at].S)) }

func (m *machine) truth(n here) { m.give(value.Truth(m.term[n.at].N != 0)) }

func (m *machine) variable(n here) {
	v := n.scope.look(m.term[n.at].N)
	if v == nil {
		panic(stuck{n.at})
	}
	m.give(v)
}

func (m *machine) cast(n here) {
	laid := m.term[n.at]
	m.giveGood(value.Cast(m.take(), laid.T, laid.U, laid.N))
}

func (m *machine) fn(n here) {
	m.give(value.Fun(code(func(x value.Value) {
		m.later(here{n.at + 1, n.scope.bind(x)}, (*machine).visit)
	})))
}

// rec gives a function that finds itself, not as it is called through wrappers, but bare.
func (m *machine) rec(n here) {
	var self value.Value
	self = value.Fun(code(func(x value.Value) {
		m.later(here{n.at + 1, n.scope.bind(self).bind(x)}, (*machine).visit)
	}))
	m.give(self)
}

// call has the body run, and then what it gave go out through the function's wrappers.
func (m *machine) call(n here) {
	x, f := m.take(), m.take()
	has, e := value.Code(f)
	m.must(0, e)
	body, ok := has.(code)
	if !ok {
		panic(stuck{n.at})
	}
	arg, label, e := value.Arg(f, x)
	m.must(label, e)
	m.later(n, func(m *machine, _ here) { m.giveGood(value.Res(f, m.take())) })
	body(arg)
}

func (m *machine) let(n here) {
	m.later(here{m.ends[n.at+1], n.scope.bind(m.take())}, (*machine).visit)
}

func (m *machine) choice(n here) {
	part := m.ends[n.at+1]
	if !m.takeTruth() {
		part = m.ends[part]
	}
	m.later(here{part, n.scope}, (*machine).visit)
}

func (m *machine) add(here) {
	x, y := m.takeNums()
	m.give(value.Num(x + y))
}

func (m *machine) sub(here) {
	x, y := m.takeNums()
	m.give(value.Num(x - y))
}

func (m *machine) mul(here) {
	x, y := m.takeNums()
	m.give(value.Num(x * y))
}

func (m *machine) neg(here) { m.give(value.Num(-m.takeNum())) }

func (m *machine) eq(here) {
	x, y := m.takeNums()
	m.give(value.Truth(x == y))
}

func (m *machine) less(here) {
	x, y := m.takeNums()
	m.give(value.Truth(x < y))
}

func (m *machine) join(here) {
	y, x := m.takeText(), m.takeText()
	if len(x)+len(y) > api.MaxBytes {
		panic(faulted{api.ErrJoin})
	}
	m.give(value.Text(x + y))
}

func (m *machine) size(here) { m.give(value.Num(int64(len(m.takeText())))) }

func (m *machine) pair(here) {
	second, first := m.take(), m.take()
	m.give(value.Pair(first, second))
}

func (m *machine) first(here) { m.giveGood(value.First(m.take())) }

func (m *machine) second(here) { m.giveGood(value.Second(m.take())) }

func (m *machine) list(n here) {
	l := value.Nil()
	for range m.term[n.at].Kids {
		l = value.Cons(m.take(), l)
	}
	m.give(l)
}

func (m *machine) cons(here) {
	rest, first := m.take(), m.take()
	m.give(value.Cons(first, rest))
}

func (m *machine) head(here) { m.giveGood(value.Head(m.take())) }

func (m *machine) tail(here) { m.giveGood(value.Tail(m.take())) }

func (m *machine) empty(here) {
	none, e := value.IsEmpty(m.take())
	m.must(0, e)
	m.give(value.Truth(none))
}

func (m *machine) box(here) {
	b, e := m.heap.Make(m.take())
	m.giveGood(b, 0, e)
}

func (m *machine) get(here) { m.giveGood(m.heap.Get(m.take())) }

// set gives the value as it was handed in, not as the box's wrappers made it.
func (m *machine) set(here) {
	v, b := m.take(), m.take()
	label, e := m.heap.Set(b, v)
	m.must(label, e)
	m.give(v)
}

func (m *machine) takeNum() int64 {
	n, e := value.AsNum(m.take())
	m.must(0, e)
	return n
}

// takeNums answers the two numbers that were given last, in their order.
func (m *machine) takeNums() (x, y int64) {
	y = m.takeNum()
	return m.takeNum(), y
}

func (m *machine) takeText() string {
	s, e := value.AsText(m.take())
	m.must(0, e)
	return s
}

func (m *machine) takeTruth() bool {
	b, e := value.AsTruth(m.take())
	m.must(0, e)
	return b
}
