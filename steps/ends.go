package steps

import (
	"culprit/api"
	"culprit/value"
)

// What a run leaves by, where it does not end with a value.
type (
	blamed  struct{ label int64 }
	faulted struct{ e api.Errno }
	spent   struct{}
	stuck   struct{ node int }
)

// Run answers what is seen of the term's value, or why it has none; where the run is stuck, node is that node's number.
func (m *Machine) Run(depth int) (r api.Result, node int) {
	defer func() {
		if thrown := recover(); thrown != nil {
			var o api.Obs
			o, node = lastSeen(thrown)
			r = api.Result{Seen: []api.Obs{o}, Steps: m.steps}
		}
	}()
	v := m.whole()
	return api.Result{Seen: value.Seen(v, depth), Steps: m.steps}, 0
}

// lastSeen answers what is seen of a run that was left, and the node at which it is stuck.
func lastSeen(thrown any) (o api.Obs, node int) {
	switch x := thrown.(type) {
	case blamed:
		return api.Obs{Kind: api.OBlame, N: x.label}, 0
	case faulted:
		return api.Obs{Kind: api.OFault, N: int64(x.e)}, 0
	case spent:
		return api.Obs{Kind: api.OFuel}, 0
	case stuck:
		return api.Obs{Kind: api.OFault, N: int64(api.ErrStuck)}, x.node
	}
	panic(thrown)
}
