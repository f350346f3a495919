package machine

import "culprit/value"

// row is a row of values, the nearest first; nil has none. It is never changed: closures and frames have parts of it.
type row struct {
	front     value.Value
	rest, far *row // far: a row further in, so that a distant place is found in few leaps
	length    int
}

func (r *row) size() int {
	if r == nil {
		return 0
	}
	return r.length
}

// with answers the row with one more value in front. Two leaps of one length are followed by one over both.
func (r *row) with(v value.Value) *row {
	one := &row{front: v, rest: r, far: r, length: r.size() + 1}
	if r != nil && r.length-r.far.size() == r.far.size()-r.far.leap().size() {
		one.far = r.far.leap()
	}
	return one
}

func (r *row) leap() *row {
	if r == nil {
		return nil
	}
	return r.far
}

// at answers the value at a place that the row has.
func (r *row) at(place int) value.Value {
	for length := r.length - place; r.length > length; {
		if r.far.size() >= length {
			r = r.far
		} else {
			r = r.rest
		}
	}
	return r.front
}
