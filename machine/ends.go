package machine

import (
	"culprit/api"
	"culprit/value"
)

// What a run ends with.
type (
	ended   struct{ with value.Value }
	blamed  struct{ label int64 }
	faulted struct{ e api.Errno }
	spent   struct{}
	trapped struct{ e api.Errno }
)

// over answers the result of a run that has ended with what was thrown.
func (m *machine) over(thrown any, depth int) (api.Result, api.Trap) {
	r := api.Result{Steps: m.steps, Frames: m.frames.most.returns, Casts: m.frames.most.coercions}
	switch x := thrown.(type) {
	case ended:
		r.Seen = value.Seen(x.with, depth)
	case blamed:
		r.Seen = []api.Obs{{Kind: api.OBlame, N: x.label}}
	case faulted:
		r.Seen = []api.Obs{{Kind: api.OFault, N: int64(x.e)}}
	case spent:
		r.Seen = []api.Obs{{Kind: api.OFuel}}
	case trapped:
		return api.Result{}, api.Trap{Err: x.e, Fn: m.fn, At: m.at}
	default:
		panic(thrown)
	}
	return r, api.Trap{}
}

// trap ends the run, if something is wrong at the instruction at hand.
func (m *machine) trap(wrong api.Errno) {
	if wrong != api.OK {
		panic(trapped{wrong})
	}
}

// must ends the run, where something does not hold.
func (m *machine) must(holds bool, e api.Errno) {
	if !holds {
		panic(trapped{e})
	}
}

// good answers what a call of value answered; where that refused the run ends.
func (m *machine) good(v value.Value, label int64, e api.Errno) value.Value {
	switch e {
	case api.OK:
		return v
	case api.ErrBlame:
		panic(blamed{label})
	case api.ErrGone:
		panic(faulted{e})
	}
	panic(trapped{api.ErrKind})
}
