package emit

import (
	"slices"

	"culprit/api"
	"culprit/code"
	"culprit/coerce"
	"culprit/core"
)

// layer goes over a term that checks once, from the left, and lays what stands for its nodes.
type layer struct {
	term  []api.Node
	next  int // the node that comes next
	kinds map[int8]func(*layer, api.Node) string
	lasts map[int8]func(*layer, api.Node, []core.Laid)

	code api.Code
	here int      // the function in which it is laid
	size int      // how many instructions all functions have
	row  []string // the types of the binders around the next node, the nearest one last

	nums         map[int64]int
	texts, types map[string]int
	casts        map[core.Laid]int
	wanting      []wanting
}

// wanting is an instruction whose cast has no place yet.
type wanting struct {
	fn, at int
	cast   core.Laid
}

// laid answers the code of a term of that type.
func laid(term []api.Node, t string) api.Code {
	l := layer{
		term: term, kinds: kinds(), lasts: lasts(),
		code: api.Code{Functions: []api.Function{{Result: t}}},
		nums: map[int64]int{}, texts: map[string]int{}, types: map[string]int{}, casts: map[core.Laid]int{},
	}
	l.last(nil)
	// Behind all else, so that a code that is too long has no coercions made for it: one may be as large as memory.
	for _, w := range l.wanting {
		l.code.Functions[w.fn].Code[w.at].A = l.castPlace(w.cast)
	}
	return l.code
}

// kid lays the next node, outside the tail, and answers its type.
func (l *layer) kid() string {
	n := l.term[l.next]
	l.next++
	return l.kinds[n.Kind](l, n)
}

// kids lays all kids of a node, outside the tail, and answers their types.
func (l *layer) kids(n api.Node) []string {
	types := make([]string, n.Kids)
	for i := range types {
		types[i] = l.kid()
	}
	return types
}

// last lays the next node, in the tail, below casts that wait.
func (l *layer) last(waiting []core.Laid) {
	n := l.term[l.next]
	if lay, stands := l.lasts[n.Kind]; stands {
		l.next++
		lay(l, n, waiting)
		return
	}
	l.kid()
	for _, cast := range slices.Backward(waiting) {
		l.layCast(code.Cast, cast)
	}
	l.lay(code.Ret, 0, 0)
}

// lay answers the place at which the instruction is laid.
func (l *layer) lay(op int8, a, b int) int {
	if l.size == api.MaxCode {
		panic(refusal{api.ErrMany})
	}
	l.size++
	f := &l.code.Functions[l.here]
	f.Code = append(f.Code, api.Ins{Op: op, A: a, B: b})
	return len(f.Code) - 1
}

func (l *layer) layCast(op int8, cast core.Laid) {
	l.wanting = append(l.wanting, wanting{l.here, l.lay(op, 0, 0), cast})
}

// leadHere has the jump at a place lead to what is laid next.
func (l *layer) leadHere(at int) {
	f := &l.code.Functions[l.here]
	f.Code[at].A = len(f.Code)
}

// castPlace makes no coercion twice. One that looks for no head is the same under every label.
func (l *layer) castPlace(cast core.Laid) int {
	bare := core.Laid{From: cast.From, To: cast.To}
	for _, key := range []core.Laid{bare, cast} {
		if at, stands := l.casts[key]; stands {
			return at
		}
	}
	co, e := coerce.Of(cast.From, cast.To, cast.Label)
	if e != api.OK {
		panic(refusal{e})
	}
	key := bare
	if slices.ContainsFunc(co, func(n api.Co) bool { return n.Proj != 0 }) {
		key = cast
	}
	return place(&l.code.Casts, l.casts, key, api.Waits{From: cast.From, To: cast.To, Co: co})
}
