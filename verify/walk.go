package verify

import (
	"culprit/api"
	"culprit/code"
	"culprit/coerce"
	"culprit/fields"
	"culprit/types"
)

// state: what is known at a place of code.
type state struct {
	row, stack list
	waits      string // the type that the next call must answer; nothing, if nothing waits
}

// known: the state at a place, if that is reached.
type known struct {
	state
	reached bool
}

// head: what is known of a function ahead of its instructions.
type head struct {
	closure  string // the type of its closures
	env, row list   // what these close over, and its row at the beginning
}

// walk goes over code, place by place, with the state at hand.
type walk struct {
	state
	shelf
	code   api.Code
	rules  map[int8]func(*walk, api.Ins)
	heads  []head
	fn, at int     // the place at hand; -1 where none is
	places []known // of the function at hand
	asked  struct {
		known
		fn, at int
	}
}

func newWalk(c api.Code) *walk {
	return &walk{shelf: newShelf(), code: c, rules: rules()}
}

// lists looks at what stands beside the functions.
func (w *walk) lists() {
	w.fn = -1
	for n, cast := range w.code.Casts {
		w.at = n
		w.must(coerce.Fits(cast.Co, cast.From, cast.To), api.ErrCast)
	}
	for n, t := range w.code.Types {
		w.at = n
		w.must(isType(t), api.ErrShape)
	}
}

// begin looks at the functions ahead of their instructions.
func (w *walk) begin() {
	w.fn, w.at = 0, -1
	w.must(len(w.code.Functions) > 0, api.ErrFn)
	w.heads = make([]head, len(w.code.Functions))
	for fn, f := range w.code.Functions {
		w.fn = fn
		for _, t := range f.Env {
			w.must(isType(t), api.ErrShape)
		}
		w.must(isType(f.Result), api.ErrShape)
		if fn == 0 {
			w.must(len(f.Env) == 0 && f.Param == "", api.ErrShape)
			continue
		}
		w.must(isType(f.Param), api.ErrShape)
		closure, e := types.Make('>', f.Param, f.Result)
		w.must(e == api.OK, api.ErrLarge)
		env := w.of(f.Env)
		w.heads[fn] = head{closure, env, w.with(f.Param, env)}
	}
}

// function looks at the instructions of a function that are reached.
func (w *walk) function(fn int) {
	all := w.code.Functions[fn].Code
	w.fn, w.places = fn, make([]known, len(all)+1)
	w.places[0] = known{state{row: w.heads[fn].row}, true}
	for at := range w.places {
		if !w.places[at].reached {
			continue
		}
		w.at = at
		w.must(at < len(all), api.ErrEnd)
		w.state = w.places[at].state
		if fn == w.asked.fn && at == w.asked.at {
			w.asked.known = w.places[at]
		}
		w.instruction(all[at])
	}
}

// instruction looks at an instruction, in the order in which its traps are told.
func (w *walk) instruction(i api.Ins) {
	wrong := fields.Wrong(&w.code, w.fn, w.at, w.length(w.row))
	w.must(wrong == api.OK, wrong)
	w.must(w.waits == "" || i.Op == code.Pend || i.Op == code.Tail, api.ErrFrom)
	w.rules[i.Op](w, i)
	w.goOn(i)
}

// goOn has those places reached at which an instruction goes on.
func (w *walk) goOn(i api.Ins) {
	switch i.Op {
	case code.Tail, code.Ret:
	case code.Jump:
		w.reach(i.A)
	case code.Unless:
		w.reach(w.at + 1)
		w.reach(i.A)
	default:
		w.reach(w.at + 1)
	}
}

func (w *walk) reach(at int) {
	there := &w.places[at]
	if !there.reached {
		*there = known{w.state, true}
		return
	}
	w.must(there.row == w.row, api.ErrRow)
	w.must(there.state == w.state, api.ErrKind)
}

func isType(t string) bool {
	e, _ := types.Check(t)
	return e == api.OK
}
