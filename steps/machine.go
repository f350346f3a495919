package steps

import (
	"slices"

	"culprit/api"
	"culprit/heap"
	"culprit/value"
)

// Cast answers what the Cast at a node makes of a value.
type Cast func(v value.Value, node int) (value.Value, int64, api.Errno)

// Machine runs a term. What waits stands in a list, not in calls of calls: in each of the calls that fuel allows a term's whole height may wait.
type Machine struct {
	term        []api.Node
	ends        []int // where the part at each node ends
	kinds       map[int8]func(here)
	casts       Cast
	heap        *heap.Heap
	steps, fuel int
	jobs        []job         // the next one last
	values      []value.Value // what was given and not yet taken, the latest last
	at          int           // the node whose work is being done
}

// here is a node that is run, and what its binders have.
type here struct {
	at    int
	scope *scope
}

// job is something to be done for a node.
type job struct {
	here
	do func(*Machine, here)
}

// code is what a function does with its argument.
type code func(x value.Value)

// New answers a machine that runs a term, whose nodes are whole, once.
func New(term []api.Node, fuel int, casts Cast) *Machine {
	m := &Machine{term: term, ends: endsOf(term), casts: casts, heap: heap.New(), fuel: fuel}
	m.kinds = m.works()
	return m
}

// endsOf answers where the parts of a term end.
func endsOf(term []api.Node) []int {
	ends := make([]int, len(term))
	for at := len(term) - 1; at >= 0; at-- {
		end := at + 1
		for range term[at].Kids {
			end = ends[end]
		}
		ends[at] = end
	}
	return ends
}

// Node answers the node with that number.
func (m *Machine) Node(node int) api.Node { return m.term[node] }

// whole answers what the whole term gives.
func (m *Machine) whole() value.Value {
	m.later(here{}, (*Machine).visit)
	for len(m.jobs) > 0 {
		last := len(m.jobs) - 1
		j := m.jobs[last]
		m.jobs = m.jobs[:last]
		m.at = j.at
		j.do(m, j.here)
	}
	return m.take()
}

// later has something done for a node ahead of all that waits already.
func (m *Machine) later(n here, do func(*Machine, here)) {
	m.jobs = append(m.jobs, job{n, do})
}

// visit has the kids of a node run, in their order, and then its own work done.
func (m *Machine) visit(n here) {
	m.later(n, (*Machine).work)
	from := len(m.jobs)
	kid := n.at + 1
	for range kidsAhead(m.term[n.at]) {
		m.later(here{kid, n.scope}, (*Machine).visit)
		kid = m.ends[kid]
	}
	slices.Reverse(m.jobs[from:])
}

// kidsAhead tells how many of a node's kids are run ahead of its work, which runs the others, if any.
func kidsAhead(n api.Node) int {
	switch n.Kind {
	case api.Fn, api.Rec:
		return 0
	case api.Let, api.If:
		return 1
	}
	return n.Kids
}

func (m *Machine) work(n here) {
	kind := m.term[n.at].Kind
	if hasStep(kind) {
		m.step()
	}
	m.kinds[kind](n)
}

func hasStep(kind int8) bool {
	switch kind {
	case api.Num, api.Str, api.Truth, api.Var, api.Fn, api.Rec, api.Let, api.Cast:
		return false
	}
	return true
}

// step asks for fuel ahead of what is done, so that a fault or a blame for which there is none is not seen.
func (m *Machine) step() {
	if m.steps == m.fuel {
		panic(spent{})
	}
	m.steps++
}

func (m *Machine) give(v value.Value) { m.values = append(m.values, v) }

// take answers what was given last.
func (m *Machine) take() value.Value {
	last := len(m.values) - 1
	v := m.values[last]
	m.values = m.values[:last]
	return v
}

// giveGood gives what a call of value or heap answered, if it answered something.
func (m *Machine) giveGood(v value.Value, label int64, e api.Errno) {
	m.must(label, e)
	m.give(v)
}

// must leaves the run where a call of value or heap refused.
func (m *Machine) must(label int64, e api.Errno) {
	switch e {
	case api.OK:
	case api.ErrBlame:
		panic(blamed{label})
	case api.ErrGone:
		panic(faulted{e})
	default:
		panic(stuck{m.at})
	}
}

// scope has what a binder has, and the binders around it.
type scope struct {
	has    value.Value
	around *scope
}

func (s *scope) bind(v value.Value) *scope { return &scope{v, s} }

// look answers what the binder at a distance has, nil if there is no such binder.
func (s *scope) look(distance int64) value.Value {
	if distance < 0 {
		return nil
	}
	for ; s != nil && distance > 0; distance-- {
		s = s.around
	}
	if s == nil {
		return nil
	}
	return s.has
}
