package parse

import "culprit/api"

// The limits, in the order in which they are told.
const (
	largeType = iota
	manyModules
	manyDefs
	manyNodes
	deepTree
	allLimits
)

// limits knows of each limit where it was first passed: no place, if it wasn't.
type limits struct {
	passed [allLimits]api.Place
}

func (l *limits) pass(limit int, at api.Place) {
	if l.passed[limit] == (api.Place{}) {
		l.passed[limit] = at
	}
}

// tell throws the first limit that was passed.
func (l *limits) tell() {
	for limit, at := range l.passed {
		if at != (api.Place{}) {
			panic(fault{errorOf(limit), at})
		}
	}
}

func errorOf(limit int) api.Errno {
	switch limit {
	case largeType:
		return api.ErrLarge
	case deepTree:
		return api.ErrDeep
	}
	return api.ErrMany
}
