package emit

import (
	"slices"

	"culprit/api"
	"culprit/code"
	"culprit/core"
	"culprit/types"
)

// kinds answers what is laid of each kind of node outside the tail; each rule answers the node's type.
func kinds() map[int8]func(*layer, api.Node) string {
	return map[int8]func(*layer, api.Node) string{
		api.Num: (*layer).number, api.Str: (*layer).text, api.Truth: (*layer).truth, api.Var: (*layer).variable,
		api.Fn: (*layer).function, api.Rec: (*layer).recursive,
		api.Call: (*layer).call, api.Let: (*layer).let, api.If: (*layer).choice, api.Cast: (*layer).cast,
		api.Add: (*layer).reckoning, api.Sub: (*layer).reckoning, api.Mul: (*layer).reckoning, api.Neg: (*layer).reckoning, api.Size: (*layer).reckoning,
		api.Eq: (*layer).comparison, api.Less: (*layer).comparison, api.Join: (*layer).join,
		api.Pair: (*layer).pair, api.First: (*layer).first, api.Second: (*layer).second,
		api.List: (*layer).list, api.Cons: (*layer).cons, api.Head: (*layer).first, api.Tail: (*layer).tail, api.Empty: (*layer).empty,
		api.Box: (*layer).box, api.Get: (*layer).get, api.Set: (*layer).set,
	}
}

func (l *layer) number(n api.Node) string {
	l.lay(code.Push, place(&l.code.Nums, l.nums, n.N, n.N), 0)
	return "i"
}

func (l *layer) text(n api.Node) string {
	l.lay(code.Text, place(&l.code.Texts, l.texts, n.S, n.S), 0)
	return "t"
}

func (l *layer) truth(n api.Node) string {
	l.lay(code.Truth, int(n.N), 0)
	return "b"
}

func (l *layer) variable(n api.Node) string {
	l.lay(code.Local, int(n.N), 0)
	return l.row[len(l.row)-1-int(n.N)]
}

func (l *layer) function(n api.Node) string {
	l.body(code.Fn, n)
	return ">" + n.T + n.U
}

func (l *layer) recursive(n api.Node) string {
	own := ">" + n.T + n.U
	l.body(code.Rec, n, own)
	return own
}

// body lays a function's body in a function of its own, which closes over more binders and those around it.
func (l *layer) body(op int8, n api.Node, binders ...string) {
	outer, around := l.here, len(l.row)
	l.row = append(l.row, binders...)
	env := slices.Clone(l.row)
	slices.Reverse(env)
	number := len(l.code.Functions)
	l.code.Functions = append(l.code.Functions, api.Function{Env: env, Param: n.T, Result: n.U})
	l.lay(op, number, 0)
	l.here = number
	l.row = append(l.row, n.T)
	l.last(nil)
	l.here, l.row = outer, l.row[:around]
}

func (l *layer) call(n api.Node) string {
	kids := l.kids(n)
	l.lay(code.Call, 0, 0)
	return types.Parts(kids[0])[1]
}

func (l *layer) let(api.Node) string {
	bound := l.kid()
	l.lay(code.Let, 0, 0)
	l.row = append(l.row, bound)
	t := l.kid()
	l.row = l.row[:len(l.row)-1]
	l.lay(code.End, 0, 0)
	return t
}

func (l *layer) choice(api.Node) string {
	l.kid()
	unless := l.lay(code.Unless, 0, 0)
	t := l.kid()
	jump := l.lay(code.Jump, 0, 0)
	l.leadHere(unless)
	l.kid()
	l.leadHere(jump)
	return t
}

func (l *layer) cast(n api.Node) string {
	l.kid()
	l.layCast(code.Cast, castOf(n))
	return n.U
}

func castOf(n api.Node) core.Laid { return core.Laid{Label: n.N, From: n.T, To: n.U} }

func (l *layer) operation(n api.Node) {
	l.kids(n)
	l.lay(code.Op, int(n.Kind), 0)
}

func (l *layer) reckoning(n api.Node) string {
	l.operation(n)
	return "i"
}

func (l *layer) comparison(n api.Node) string {
	l.operation(n)
	return "b"
}

func (l *layer) join(n api.Node) string {
	l.operation(n)
	return "t"
}

func (l *layer) pair(n api.Node) string {
	kids := l.kids(n)
	l.lay(code.Pair, 0, 0)
	return "," + kids[0] + kids[1]
}

// part lays what takes a pair or a list apart, and answers the type of that.
func (l *layer) part(n api.Node) string {
	whole := l.kid()
	l.lay(code.Part, int(n.Kind), 0)
	return whole
}

func (l *layer) first(n api.Node) string { return types.Parts(l.part(n))[0] }

func (l *layer) second(n api.Node) string { return types.Parts(l.part(n))[1] }

func (l *layer) tail(n api.Node) string { return l.part(n) }

func (l *layer) empty(n api.Node) string {
	l.part(n)
	return "b"
}

func (l *layer) list(n api.Node) string {
	l.kids(n)
	l.lay(code.List, n.Kids, place(&l.code.Types, l.types, n.T, n.T))
	return "l" + n.T
}

func (l *layer) cons(n api.Node) string {
	kids := l.kids(n)
	l.lay(code.Cons, 0, 0)
	return kids[1]
}

func (l *layer) box(api.Node) string {
	t := l.kid()
	l.lay(code.Box, 0, 0)
	return "x" + t
}

func (l *layer) get(api.Node) string {
	box := l.kid()
	l.lay(code.Get, 0, 0)
	return types.Parts(box)[0]
}

func (l *layer) set(n api.Node) string {
	kids := l.kids(n)
	l.lay(code.Set, 0, 0)
	return kids[1]
}
