package value

import (
	"culprit/api"
	"culprit/coerce"
	"culprit/relate"
	"culprit/types"
)

// recast is a value wrapped with a cast between two types of one head.
type recast struct {
	Value
	from, to string
	label    int64
}

func (r *recast) inner() Value { return r.Value }

func (r *recast) head() byte { return r.from[0] }

func (r *recast) pass(x Value, p passage) (Value, int64, api.Errno) {
	from, to := types.Parts(r.from)[p.part], types.Parts(r.to)[p.part]
	if p.inward {
		return castBy(x, to, from, -r.label)
	}
	return castBy(x, from, to, r.label)
}

func (r *recast) around(v Value) (Value, int64, api.Errno) {
	return castBy(v, r.from, r.to, r.label)
}

// castError answers the error of coerce.Of. The coercion itself is not made: boxes in boxes may make it greater than any memory, while a cast of them is only kept.
func castError(from, to string, label int64) api.Errno {
	if !isType(from) || !isType(to) {
		return api.ErrShape
	}
	if !relate.Consistent(from, to) {
		return api.ErrType
	}
	_, e := coerce.Of("?", "?", label)
	return e
}

func isType(t string) bool {
	e, _ := types.Check(t)
	return e == api.OK
}

// castBy casts a value, which is not nil, between consistent types.
func castBy(v Value, from, to string, label int64) (Value, int64, api.Errno) {
	switch {
	case from == to:
		return v, 0, api.OK
	case to == "?":
		v, _, _ = castBy(v, from, types.Ground(from), label) // between types of one head nothing is refused
		return &tagged{v, from[0]}, 0, api.OK
	case from == "?":
		v, blamed, e := untag(v, to[0], label)
		if e != api.OK {
			return nil, blamed, e
		}
		return castBy(v, types.Ground(to), to, label)
	}
	return &recast{v, from, to, label}, 0, api.OK
}

// untag answers what is in a tagged value, if it has that head.
func untag(v Value, head byte, label int64) (Value, int64, api.Errno) {
	t, ok := v.(*tagged)
	switch {
	case !ok:
		return nil, 0, api.ErrStuck
	case t.head != head:
		return nil, label, api.ErrBlame
	}
	return t.Value, 0, api.OK
}
