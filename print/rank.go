package print

import "culprit/api"

// The ranks, the loosest first: beside a mark that binds closer than a text does, the text needs brackets to stay together.
const (
	open     = iota // goes on as far as it may
	compared        // of two sums; these do not go on
	summed
	multiplied
	signed
	called
	closed // nothing beside it reaches into it
)

func rankOf(kind int8) int {
	switch kind {
	case api.Fn, api.Rec, api.Let, api.If, api.Set:
		return open
	case api.Eq, api.Less:
		return compared
	case api.Add, api.Sub, api.Join:
		return summed
	case api.Mul:
		return multiplied
	case api.Neg, api.Get:
		return signed
	case api.Call:
		return called
	}
	return closed
}
