// Package machine is the machine of chapter 21, for the layers that run code.
package machine

import (
	"culprit/api"
	"culprit/code"
	"culprit/fields"
	"culprit/value"
)

// machine runs code.
type machine struct {
	code   api.Code
	table  [code.Pend + 1]instruction
	fuel   int
	fn, at int // the place of the instruction at hand
	next   int // where the run goes on behind it
	row    *row
	values []value.Value // of all stacks that wait, and behind them the one at hand, the latest last
	base   int           // where that one begins
	frames frames
	steps  int
}

// Run answers the result of code, run from its beginning with so much fuel, seen down to a depth; or where something is not as the instructions want it.
func Run(c api.Code, fuel, depth int) (r api.Result, trap api.Trap) {
	if len(c.Functions) == 0 {
		return api.Result{}, api.Trap{Err: api.ErrFn, At: -1}
	}
	m := &machine{code: c, table: table(), fuel: fuel}
	defer func() { r, trap = m.over(recover(), depth) }()
	for {
		m.instruct()
	}
}

// instruct does the instruction at hand.
func (m *machine) instruct() {
	all := m.code.Functions[m.fn].Code
	m.must(m.at < len(all), api.ErrEnd)
	m.trap(fields.Wrong(&m.code, m.fn, m.at, m.row.size()))
	i := all[m.at]
	what := m.table[i.Op]
	m.must(len(m.values)-m.base >= m.takes(i), api.ErrStack)
	if what.asks != nil {
		what.asks(m, i)
	}
	if what.steps {
		m.step()
	}
	m.next = m.at + 1
	what.do(m, i)
	m.at = m.next
}

// takes tells how many values an instruction takes.
func (m *machine) takes(i api.Ins) int {
	switch i.Op {
	case code.Op:
		return operands(i.A)
	case code.List:
		return i.A
	}
	return m.table[i.Op].takes
}

// step asks for fuel ahead of what is done, so that a fault or a blame for which there is none is not seen.
func (m *machine) step() {
	if m.steps == m.fuel {
		panic(spent{})
	}
	m.steps++
}

func (m *machine) lay(v value.Value) { m.values = append(m.values, v) }

// layGood lays what a call of value answered, if it answered something.
func (m *machine) layGood(v value.Value, label int64, e api.Errno) { m.lay(m.good(v, label, e)) }

// take answers the latest value; that there is one has been asked.
func (m *machine) take() value.Value {
	last := len(m.values) - 1
	v := m.values[last]
	m.values = m.values[:last]
	return v
}
