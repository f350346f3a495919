package verify

import (
	"culprit/api"
	"culprit/code"
)

// fields: what is asked of the numbers of an instruction, by its op; of those that are not here nothing is.
func fields() map[int8]func(*walk, api.Ins) {
	return map[int8]func(*walk, api.Ins){
		code.Push: (*walk).hasNum, code.Text: (*walk).hasText, code.Truth: (*walk).hasTruth, code.Op: (*walk).hasOperation,
		code.Part: (*walk).hasPart, code.List: (*walk).hasType, code.Local: (*walk).hasLocal, code.Fn: (*walk).hasFunction,
		code.Rec: (*walk).hasFunction, code.Cast: (*walk).hasCast, code.Pend: (*walk).hasCast,
		code.Jump: (*walk).leadsOn, code.Unless: (*walk).leadsOn,
	}
}

func within(n, from, to int) bool { return from <= n && n <= to }

func (w *walk) hasNum(i api.Ins) { w.must(within(i.A, 0, len(w.code.Nums)-1), api.ErrOp) }

func (w *walk) hasText(i api.Ins) { w.must(within(i.A, 0, len(w.code.Texts)-1), api.ErrOp) }

func (w *walk) hasTruth(i api.Ins) { w.must(within(i.A, 0, 1), api.ErrOp) }

func (w *walk) hasOperation(i api.Ins) {
	w.must(within(i.A, int(api.Add), int(api.Size)), api.ErrOp)
}

func (w *walk) hasPart(i api.Ins) {
	switch i.A {
	case int(api.First), int(api.Second), int(api.Head), int(api.Tail), int(api.Empty):
	default:
		w.must(false, api.ErrOp)
	}
}

func (w *walk) hasType(i api.Ins) {
	w.must(i.A >= 0 && within(i.B, 0, len(w.code.Types)-1), api.ErrOp)
}

func (w *walk) hasLocal(i api.Ins) { w.must(within(i.A, 0, w.length(w.row)-1), api.ErrLocal) }

func (w *walk) hasFunction(i api.Ins) { w.must(within(i.A, 1, len(w.code.Functions)-1), api.ErrFn) }

func (w *walk) hasCast(i api.Ins) { w.must(within(i.A, 0, len(w.code.Casts)-1), api.ErrCast) }

func (w *walk) leadsOn(i api.Ins) { w.must(within(i.A, w.at+1, len(w.places)-2), api.ErrEnd) }
