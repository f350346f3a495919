// Package fields asks of an instruction what chapter 20 asks of its numbers, for the layers that check code and that run it.
package fields

import (
	"math"

	"culprit/api"
	"culprit/code"
)

// Wrong answers what is wrong with the numbers of the instruction at a place of a function, if the row has so many; OK if nothing is.
func Wrong(c *api.Code, fn, at, row int) api.Errno {
	all := c.Functions[fn].Code
	i := all[at]
	switch i.Op {
	case code.Push:
		return within(i.A, 0, len(c.Nums)-1, api.ErrOp)
	case code.Text:
		return within(i.A, 0, len(c.Texts)-1, api.ErrOp)
	case code.Truth:
		return within(i.A, 0, 1, api.ErrOp)
	case code.Local:
		return within(i.A, 0, row-1, api.ErrLocal)
	case code.Fn, code.Rec:
		return within(i.A, 1, len(c.Functions)-1, api.ErrFn)
	case code.Jump, code.Unless:
		return within(i.A, at+1, len(all)-1, api.ErrEnd)
	case code.Op:
		return within(i.A, int(api.Add), int(api.Size), api.ErrOp)
	case code.Part:
		return part(i.A)
	case code.List:
		return max(within(i.A, 0, math.MaxInt, api.ErrOp), within(i.B, 0, len(c.Types)-1, api.ErrOp))
	case code.Cast, code.Pend:
		return within(i.A, 0, len(c.Casts)-1, api.ErrCast)
	case code.Call, code.Tail, code.Ret, code.Let, code.End, code.Pair, code.Cons, code.Box, code.Get, code.Set:
		return api.OK
	}
	return api.ErrOp
}

func within(n, from, to int, e api.Errno) api.Errno {
	if n < from || n > to {
		return e
	}
	return api.OK
}

func part(kind int) api.Errno {
	switch kind {
	case int(api.First), int(api.Second), int(api.Head), int(api.Tail), int(api.Empty):
		return api.OK
	}
	return api.ErrOp
}
