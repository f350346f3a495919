package verify

import (
	"culprit/api"
	"culprit/code"
	"culprit/types"
)

// rules: what an instruction whose numbers are right takes, lays, and asks besides, by its op.
func rules() map[int8]func(*walk, api.Ins) {
	return map[int8]func(*walk, api.Ins){
		code.Push: (*walk).push, code.Text: (*walk).text, code.Truth: (*walk).truth, code.Local: (*walk).local,
		code.Fn: (*walk).closure, code.Rec: (*walk).recursive, code.Call: (*walk).call, code.Tail: (*walk).tail, code.Ret: (*walk).ret,
		code.Jump: (*walk).jump, code.Unless: (*walk).unless, code.Let: (*walk).let, code.End: (*walk).end,
		code.Op: (*walk).operation, code.Pair: (*walk).pair, code.Part: (*walk).part, code.List: (*walk).list, code.Cons: (*walk).cons,
		code.Box: (*walk).box, code.Get: (*walk).get, code.Set: (*walk).set, code.Cast: (*walk).cast, code.Pend: (*walk).pend,
	}
}

func (w *walk) lay(t string) { w.stack = w.with(t, w.stack) }

// make lays a type that is made of others, if it is not too large.
func (w *walk) make(head byte, parts ...string) {
	t, e := types.Make(head, parts...)
	w.must(e == api.OK, api.ErrLarge)
	w.lay(t)
}

// need asks for as many on the stack as are taken.
func (w *walk) need(n int) { w.must(w.length(w.stack) >= n, api.ErrStack) }

// alone asks for as many on the stack, and no more.
func (w *walk) alone(n int) { w.must(w.length(w.stack) == n, api.ErrStack) }

func (w *walk) take() string {
	latest := w.links[w.stack]
	w.stack = latest.rest
	return latest.front
}

// turn takes things of these types, and lays one.
func (w *walk) turn(to string, from ...string) {
	w.need(len(from))
	for _, t := range from {
		w.must(w.take() == t, api.ErrKind)
	}
	w.lay(to)
}

// parts takes a thing of that head, and answers the parts of its type.
func (w *walk) parts(head byte) []string {
	t := w.take()
	w.must(types.Head(t) == head, api.ErrKind)
	return types.Parts(t)
}

func (w *walk) push(api.Ins) { w.lay("i") }

func (w *walk) text(api.Ins) { w.lay("t") }

func (w *walk) truth(api.Ins) { w.lay("b") }

func (w *walk) local(i api.Ins) { w.lay(w.nth(w.row, i.A)) }

func (w *walk) closure(i api.Ins) {
	f := w.heads[i.A]
	w.must(f.env == w.row, api.ErrRow)
	w.lay(f.closure)
}

func (w *walk) recursive(i api.Ins) {
	f := w.heads[i.A]
	w.must(f.env == w.with(f.closure, w.row), api.ErrRow)
	w.lay(f.closure)
}

// called takes a function and what it is handed, and answers its result.
func (w *walk) called() string {
	argument := w.take()
	function := w.parts('>')
	w.must(function[0] == argument, api.ErrKind)
	return function[1]
}

func (w *walk) call(api.Ins) {
	w.need(2)
	w.lay(w.called())
}

// wanted answers what the next call in the tail must answer.
func (w *walk) wanted() string {
	if w.waits != "" {
		return w.waits
	}
	return w.code.Functions[w.fn].Result
}

func (w *walk) tail(api.Ins) {
	w.alone(2)
	w.must(w.called() == w.wanted(), api.ErrKind)
}

func (w *walk) ret(api.Ins) {
	w.alone(1)
	w.must(w.take() == w.wanted(), api.ErrKind)
}

func (w *walk) jump(api.Ins) {}

func (w *walk) unless(api.Ins) {
	w.need(1)
	w.must(w.take() == "b", api.ErrKind)
}

func (w *walk) let(api.Ins) {
	w.need(1)
	w.row = w.with(w.take(), w.row)
}

func (w *walk) end(api.Ins) {
	w.must(w.length(w.row) > w.length(w.heads[w.fn].row), api.ErrRow)
	w.row = w.links[w.row].rest
}

func (w *walk) operation(i api.Ins) {
	switch int8(i.A) {
	case api.Add, api.Sub, api.Mul:
		w.turn("i", "i", "i")
	case api.Join:
		w.turn("t", "t", "t")
	case api.Eq, api.Less:
		w.turn("b", "i", "i")
	case api.Neg:
		w.turn("i", "i")
	case api.Size:
		w.turn("i", "t")
	}
}

func (w *walk) pair(api.Ins) {
	w.need(2)
	second, first := w.take(), w.take()
	w.make(',', first, second)
}

func (w *walk) part(i api.Ins) {
	w.need(1)
	whole := w.links[w.stack].front
	switch int8(i.A) {
	case api.First:
		w.lay(w.parts(',')[0])
	case api.Second:
		w.lay(w.parts(',')[1])
	case api.Head:
		w.lay(w.parts('l')[0])
	case api.Tail:
		w.parts('l')
		w.lay(whole)
	case api.Empty:
		w.parts('l')
		w.lay("b")
	}
}

func (w *walk) list(i api.Ins) {
	w.need(i.A)
	t := w.code.Types[i.B]
	w.must(w.begins(w.stack, i.A, t), api.ErrKind)
	w.stack = w.without(w.stack, i.A)
	w.make('l', t)
}

func (w *walk) cons(api.Ins) {
	w.need(2)
	rest, first := w.take(), w.take()
	w.must(rest == "l"+first, api.ErrKind)
	w.lay(rest)
}

func (w *walk) box(api.Ins) {
	w.need(1)
	w.make('x', w.take())
}

func (w *walk) get(api.Ins) {
	w.need(1)
	w.lay(w.parts('x')[0])
}

func (w *walk) set(api.Ins) {
	w.need(2)
	t := w.take()
	w.must(w.parts('x')[0] == t, api.ErrKind)
	w.lay(t)
}

func (w *walk) cast(i api.Ins) {
	w.need(1)
	cast := w.code.Casts[i.A]
	w.must(w.take() == cast.From, api.ErrFrom)
	w.lay(cast.To)
}

func (w *walk) pend(i api.Ins) {
	w.alone(2)
	cast := w.code.Casts[i.A]
	w.must(cast.To == w.wanted(), api.ErrFrom)
	w.waits = cast.From
}
