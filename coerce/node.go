package coerce

import (
	"math"

	"culprit/api"
)

// opOf answers the op that a head has where nothing fails, 0 of a letter that is none.
func opOf(head byte) int8 {
	switch head {
	case 'i', 'b', 't':
		return api.CoBase
	case '>':
		return api.CoFun
	case ',':
		return api.CoPair
	case 'l':
		return api.CoList
	case 'x':
		return api.CoBox
	}
	return 0
}

// kidsOf answers how many kids a node has.
func kidsOf(op int8) int {
	switch op {
	case api.CoFun, api.CoPair, api.CoBox:
		return 2
	case api.CoList:
		return 1
	}
	return 0
}

func isHead(letter byte) bool { return opOf(letter) != 0 }

func isLabel(n int64) bool {
	return n != 0 && -math.MaxInt32 <= n && n <= math.MaxInt32
}

// stands tells whether a node may stand in a coercion, its kids aside.
func stands(n api.Co) bool {
	if n.Proj != 0 && !isLabel(n.Proj) {
		return false
	}
	switch n.Op {
	case api.CoAny:
		return n == api.Co{Op: api.CoAny}
	case api.CoFail:
		return !n.Inj && isLabel(n.Label) && isHead(n.Head) && n.From == n.Head && isHead(n.To) && n.To != n.Head
	}
	return isHead(n.Head) && n == api.Co{Op: opOf(n.Head), Proj: n.Proj, Inj: n.Inj, Head: n.Head}
}
