package emit

import (
	"culprit/api"
	"culprit/code"
	"culprit/core"
)

// lasts answers what is laid otherwise in the tail, below casts that wait, the outermost first.
func lasts() map[int8]func(*layer, api.Node, []core.Laid) {
	return map[int8]func(*layer, api.Node, []core.Laid){
		api.Call: (*layer).lastCall, api.Let: (*layer).lastLet, api.If: (*layer).lastChoice, api.Cast: (*layer).lastCast,
	}
}

func (l *layer) lastCall(n api.Node, waiting []core.Laid) {
	l.kids(n)
	for _, cast := range waiting {
		l.layCast(code.Pend, cast)
	}
	l.lay(code.Tail, 0, 0)
}

func (l *layer) lastLet(_ api.Node, waiting []core.Laid) {
	bound := l.kid()
	l.lay(code.Let, 0, 0)
	l.row = append(l.row, bound)
	l.last(waiting)
	l.row = l.row[:len(l.row)-1]
}

func (l *layer) lastChoice(_ api.Node, waiting []core.Laid) {
	l.kid()
	unless := l.lay(code.Unless, 0, 0)
	l.last(waiting)
	l.leadHere(unless)
	l.last(waiting)
}

// lastCast hands down a list of its own: what is behind the other one's end may be another choice's.
func (l *layer) lastCast(n api.Node, waiting []core.Laid) {
	l.last(append(waiting[:len(waiting):len(waiting)], castOf(n)))
}
