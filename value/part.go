package value

import "culprit/api"

// passage says how a part goes through a wrapper of that head: which of the types' parts is cast, or which kid of the middle coerces it; and whether it goes in, the outermost wrapper first, or out.
type passage struct {
	head      byte
	part, kid int
	inward    bool
}

var (
	firstHalf  = passage{head: ',', part: 0, kid: 0}
	secondHalf = passage{head: ',', part: 1, kid: 1}
	element    = passage{head: 'l', part: 0, kid: 0}
	argument   = passage{head: '>', part: 0, kid: 0, inward: true}
	result     = passage{head: '>', part: 1, kid: 1}
	reading    = passage{head: 'x', part: 0, kid: 0}
	setting    = passage{head: 'x', part: 0, kid: 1, inward: true}
)

// layers are the wrappers of a value, the outermost first, and what stands under them. They are gone through in loops, not by calls in calls: a value may be wrapped many times.
type layers struct {
	wrappers []wrapper
	core     Value
}

// peel answers the layers of a value, if all its wrappers are of that head.
func peel(v Value, head byte) (layers, api.Errno) {
	l := layersOf(v)
	for _, w := range l.wrappers {
		if w.head() != head {
			return layers{}, api.ErrStuck
		}
	}
	return l, api.OK
}

// layersOf answers the layers of a value, whatever its wrappers are.
func layersOf(v Value) layers {
	var l layers
	for {
		switch w := v.(type) {
		case wrapper:
			l.wrappers, v = append(l.wrappers, w), w.inner()
		default:
			l.core = v
			return l
		}
	}
}

// pass answers a part, which may be nil, when it has gone through all wrappers.
func (l layers) pass(x Value, p passage) (Value, int64, api.Errno) {
	return l.each(x, p.inward, func(w wrapper, x Value) (Value, int64, api.Errno) { return w.pass(x, p) })
}

// rewrap answers a value, which may be nil, wrapped as what is in the layers is.
func (l layers) rewrap(v Value) (Value, int64, api.Errno) {
	return l.each(v, false, wrapper.around)
}

// each does something to a value by each wrapper, until something is refused.
func (l layers) each(v Value, inward bool, do func(wrapper, Value) (Value, int64, api.Errno)) (Value, int64, api.Errno) {
	if v == nil {
		return nil, 0, api.ErrStuck
	}
	for i := range l.wrappers {
		if !inward {
			i = len(l.wrappers) - 1 - i
		}
		var blamed int64
		var e api.Errno
		if v, blamed, e = do(l.wrappers[i], v); e != api.OK {
			return nil, blamed, e
		}
	}
	return v, 0, api.OK
}

// half answers the half of a pair that the passage is for.
func half(v Value, p passage) (Value, int64, api.Errno) {
	l, e := peel(v, p.head)
	if e != api.OK {
		return nil, 0, e
	}
	both, ok := l.core.(*pair)
	if !ok {
		return nil, 0, api.ErrStuck
	}
	x := both.first
	if p.part == 1 {
		x = both.second
	}
	return l.pass(x, p)
}

// full answers the layers of a list that is not empty, and what stands under them.
func full(v Value) (layers, *cons, api.Errno) {
	l, e := peel(v, element.head)
	if e != api.OK {
		return layers{}, nil, e
	}
	none, e := isEmpty(l.core)
	switch {
	case e != api.OK:
		return layers{}, nil, e
	case none:
		return layers{}, nil, api.ErrGone
	}
	return l, l.core.(*cons), api.OK
}

// through answers what goes in to, or comes out of, a function or a box, of which ask tells what it has.
func through(v, x Value, p passage, ask func(Value) (any, api.Errno)) (Value, int64, api.Errno) {
	l, e := peel(v, p.head)
	if e != api.OK {
		return nil, 0, e
	}
	if _, e := ask(l.core); e != api.OK {
		return nil, 0, e
	}
	return l.pass(x, p)
}
