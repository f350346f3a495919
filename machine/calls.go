package machine

import (
	"culprit/api"
	"culprit/coerce"
	"culprit/value"
)

// closure is what a function has: its number and what it closes over.
type closure struct {
	fn   int
	over *row
}

func (m *machine) close(i api.Ins) { m.lay(value.Fun(&closure{i.A, m.row})) }

func (m *machine) closeOverItself(i api.Ins) {
	f := &closure{fn: i.A}
	v := value.Fun(f)
	f.over = m.row.with(v)
	m.lay(v)
}

func (m *machine) call(api.Ins) {
	x, f := m.take(), m.take()
	body, x := m.into(f, x)
	m.frames.push(comeBack{m.fn, m.next, m.row, m.base})
	m.waitBehind(f)
	m.begin(body, x)
}

func (m *machine) tail(api.Ins) {
	x, f := m.take(), m.take()
	body, x := m.into(f, x)
	m.waitBehind(f)
	m.values = m.values[:m.base]
	m.begin(body, x)
}

// into answers the closure under a function's wrapper, and x as that is to get it.
func (m *machine) into(f, x value.Value) (*closure, value.Value) {
	has, e := value.Code(f)
	m.must(e == api.OK, api.ErrKind)
	body, ours := has.(*closure)
	m.must(ours, api.ErrKind)
	return body, m.good(value.Arg(f, x))
}

// begin has a closure's function begin, with an empty stack.
func (m *machine) begin(f *closure, x value.Value) {
	m.fn, m.next, m.row, m.base = f.fn, 0, f.over.with(x), len(m.values)
}

// waitBehind lays to wait what a function's wrapper does to an answer.
func (m *machine) waitBehind(f value.Value) {
	if middle, _, wrapped := value.Wrap(f); wrapped {
		m.wait(secondKid(middle))
	}
}

// secondKid answers that of a coercion which has two.
func secondKid(c []api.Co) []api.Co {
	at := 1
	for missing := 1; missing > 0; at++ {
		switch c[at].Op {
		case api.CoFun, api.CoPair, api.CoBox:
			missing++
		case api.CoList:
		default:
			missing--
		}
	}
	return c[at:]
}

// wait lays a coercion to wait. No two stand one on the other: what they do is done by one.
func (m *machine) wait(c []api.Co) {
	if coerce.IsId(c) {
		return
	}
	if d, waits := m.frames.latest().(coercion); waits {
		both, e := coerce.Then(c, d)
		m.must(e == api.OK, api.ErrCast)
		m.frames.pop()
		if coerce.IsId(both) {
			return
		}
		c = both
	}
	m.frames.push(coercion(c))
}

func (m *machine) pend(i api.Ins) { m.wait(m.code.Casts[i.A].Co) }

// ret goes out through the frames, to the latest return, or to the end.
func (m *machine) ret(api.Ins) {
	v := m.take()
	for {
		switch f := m.frames.latest().(type) {
		case coercion:
			m.frames.pop()
			v = m.good(value.Coerce(v, f))
		case comeBack:
			m.frames.pop()
			m.values = m.values[:m.base]
			m.fn, m.next, m.row, m.base = f.fn, f.at, f.row, f.base
			m.lay(v)
			return
		default:
			panic(ended{v})
		}
	}
}
