package value

import (
	"slices"

	"culprit/api"
	"culprit/coerce"
)

// merged is a value wrapped with a middle of a coercion that is no identity.
type merged struct {
	Value
	middle []api.Co // its own, never changed
}

func (m *merged) inner() Value { return m.Value }

func (m *merged) head() byte { return m.middle[0].Head }

func (m *merged) pass(x Value, p passage) (Value, int64, api.Errno) {
	return coerceBy(x, kid(m.middle, p.kid))
}

func (m *merged) around(v Value) (Value, int64, api.Errno) {
	return coerceBy(v, m.middle)
}

// coerceBy coerces a value, which is not nil, by a coercion that may be.
func coerceBy(v Value, c []api.Co) (Value, int64, api.Errno) {
	root := c[0]
	if root.Op == api.CoAny {
		return v, 0, api.OK
	}
	if root.Proj != 0 {
		var blamed int64
		var e api.Errno
		if v, blamed, e = untag(v, root.Head, root.Proj); e != api.OK {
			return nil, blamed, e
		}
	}
	switch root.Op {
	case api.CoFail:
		return nil, root.Label, api.ErrBlame
	case api.CoBase:
	default:
		var e api.Errno
		if v, e = merge(v, middleOf(c)); e != api.OK {
			return nil, 0, e
		}
	}
	if root.Inj {
		v = &tagged{v, root.Head}
	}
	return v, 0, api.OK
}

// middleOf answers a coercion without its ends, as a new list.
func middleOf(c []api.Co) []api.Co {
	c = slices.Clone(c)
	c[0].Proj, c[0].Inj = 0, false
	return c
}

// merge wraps a value with a middle, which it may keep; with one for both, if it has one already.
func merge(v Value, middle []api.Co) (Value, api.Errno) {
	if coerce.IsId(middle) {
		return v, api.OK
	}
	first, inner, ok := middleAround(v)
	if !ok {
		return &merged{v, middle}, api.OK
	}
	both, e := coerce.Then(first, middle)
	switch {
	case e != api.OK:
		return nil, api.ErrStuck
	case coerce.IsId(both):
		return inner, api.OK
	}
	return &merged{inner, both}, api.OK
}

// middleAround answers the middle that a value is wrapped with, and what is in it.
func middleAround(v Value) ([]api.Co, Value, bool) {
	m, ok := v.(*merged)
	if !ok {
		return nil, nil, false
	}
	return m.middle, m.Value, true
}

// kid answers the kid with that number of a coercion that has one.
func kid(c []api.Co, number int) []api.Co {
	from, end := 1, behind(c, 1)
	for range number {
		from, end = end, behind(c, end)
	}
	return c[from:end:end]
}

// behind answers where the part of a coercion ends that begins at from.
func behind(c []api.Co, from int) int {
	for missing := 1; missing > 0; from++ {
		switch c[from].Op {
		case api.CoFun, api.CoPair, api.CoBox:
			missing++
		case api.CoList:
		default:
			missing--
		}
	}
	return from
}
