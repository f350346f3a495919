package safe

import "culprit/types"

// questions are asked wherever parts of two types stand side by side: the first one about who gives the value there, the second one about who uses it.
type questions struct {
	inside, context func(from, to string)
}

// turned are the questions of a part that goes the other way: there who used the whole is the one who gives.
func (q questions) turned() questions {
	return questions{inside: q.context, context: q.inside}
}

// walk asks of a cast from s to t, part by part; if both ways, of one from t to s too.
func (q questions) walk(s, t string, bothWays bool) {
	q.inside(s, t)
	if bothWays {
		q.context(t, s)
	}
	// A cast to ? goes through a ground, where a side may turn. One from ? does so too, but finds nothing new there: its inside is told already, and from a ground on no context is blamed.
	if t == "?" && s != "?" {
		t = types.Ground(s)
	}
	if types.Head(s) != types.Head(t) {
		return
	}
	from, to := types.Parts(s), types.Parts(t)
	switch types.Head(s) {
	case '>':
		q.turned().walk(to[0], from[0], bothWays)
		q.walk(from[1], to[1], bothWays)
	case ',':
		q.walk(from[0], to[0], bothWays)
		q.walk(from[1], to[1], bothWays)
	case 'l':
		q.walk(from[0], to[0], bothWays)
	case 'x':
		// What is set goes the other way, with the sides turned. Two walks would be four in a box within the box, and so on, though these ask nothing new: one walk that asks both ways is enough.
		q.walk(from[0], to[0], true)
	}
}

// passes tells whether no value is refused by its head alone; of one that is, who gave it is to blame, never who uses it.
func passes(from, to string) bool {
	return to == "?" || types.Head(from) == types.Head(to)
}
