package flow

import (
	"culprit/api"
	"culprit/coerce"
)

// mostNodes of a coercion that is made. Each box in a type doubles what is below it: of some casts no memory would hold the coercion, while cast by cast they are done at once.
const mostNodes = 1 << 10

// coercionOf answers the coercion of a Cast; nil, if it would be too large.
func coercionOf(laid api.Node) []api.Co {
	if atMost(laid.T)+atMost(laid.U) > mostNodes {
		return nil
	}
	c, _ := coerce.Of(laid.T, laid.U, laid.N) // of a term that checks it is never refused
	return c
}

// atMost answers how many nodes of a coercion a type may ask for, but no more than one too many. Each letter asks for one, as often as its part stands there.
func atMost(t string) int {
	nodes, times := 0, []int{1} // of the parts still to come, the next one last
	for _, letter := range t {
		last := len(times) - 1
		n := times[last]
		times = times[:last]
		nodes = min(nodes+n, mostNodes+1)
		switch letter {
		case '>', ',':
			times = append(times, n, n)
		case 'l':
			times = append(times, n)
		case 'x': // once for what is read, once for what is set
			times = append(times, min(2*n, mostNodes+1))
		}
	}
	return nodes
}
