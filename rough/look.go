package rough

import (
	"strings"

	"culprit/api"
	"culprit/code"
	"culprit/coerce"
	"culprit/sample"
	"culprit/types"
)

// State: what is known at a place; the nearest and the latest first.
type State struct {
	Row, Stack *List
	Waits      string
}

// Place: of code.
type Place struct{ Fn, At int }

// Look answers the first trap of code, a zero one if it may run, and the states of the places that were reached.
func Look(c api.Code) (api.Trap, map[Place]State) {
	known := map[Place]State{}
	if trap := atLists(c); trap.Err != api.OK {
		return trap, known
	}
	for n, f := range c.Functions {
		if e := atHead(n, f); e != api.OK {
			return api.Trap{Err: e, Fn: n, At: -1}, known
		}
	}
	for n, f := range c.Functions {
		known[Place{n, 0}] = State{Row: beginning(n, f)}
		for at := 0; at <= len(f.Code); at++ {
			s, reached := known[Place{n, at}]
			if !reached {
				continue
			}
			k := looker{c, f, Place{n, at}, s, known}
			if e := k.look(); e != api.OK {
				return api.Trap{Err: e, Fn: n, At: at}, known
			}
		}
	}
	return api.Trap{}, known
}

func atLists(c api.Code) api.Trap {
	for n, w := range c.Casts {
		if !coerce.Fits(w.Co, w.From, w.To) {
			return api.Trap{Err: api.ErrCast, Fn: -1, At: n}
		}
	}
	for n, t := range c.Types {
		if !isType(t) {
			return api.Trap{Err: api.ErrShape, Fn: -1, At: n}
		}
	}
	if len(c.Functions) == 0 {
		return api.Trap{Err: api.ErrFn, At: -1}
	}
	return api.Trap{}
}

func isType(t string) bool {
	e, _ := types.Check(t)
	return e == api.OK
}

func atHead(n int, f api.Function) api.Errno {
	if n == 0 && (len(f.Env) > 0 || f.Param != "") {
		return api.ErrShape
	}
	asked := append([]string{f.Result}, f.Env...)
	if n > 0 {
		asked = append(asked, f.Param)
	}
	for _, t := range asked {
		if !isType(t) {
			return api.ErrShape
		}
	}
	if n > 0 && len(">"+f.Param+f.Result) > api.MaxType {
		return api.ErrLarge
	}
	return api.OK
}

func beginning(n int, f api.Function) *List {
	if n == 0 {
		return nil
	}
	return Of(f.Env).With(f.Param)
}

// looker looks at one instruction.
type looker struct {
	c     api.Code
	f     api.Function
	here  Place
	s     State
	known map[Place]State
}

// look asks all that chapter 20 asks of an instruction, in its order.
func (k *looker) look() api.Errno {
	if k.here.At == len(k.f.Code) {
		return api.ErrEnd
	}
	i := k.f.Code[k.here.At]
	if e := k.numbers(i); e != api.OK {
		return e
	}
	if k.s.Waits != "" && i.Op != code.Pend && i.Op != code.Tail {
		return api.ErrFrom
	}
	takes, lays := k.row(i)
	least := len(takes)
	switch i.Op {
	case code.Pend:
		least = 2
	case code.List:
		least = i.A
	}
	lie, all := k.s.Stack.size(), i.Op == code.Ret || i.Op == code.Tail || i.Op == code.Pend
	if lie < least || all && lie > least {
		return api.ErrStack
	}
	return k.types(i, takes, lays)
}

// types asks about what is there, and leaves the state that the instruction does.
func (k *looker) types(i api.Ins, takes []string, lays string) api.Errno {
	var bound [128]string
	if i.Op == code.List {
		for range i.A {
			takes = append(takes, k.c.Types[i.B])
		}
	}
	for n := len(takes) - 1; n >= 0; n-- {
		if !match(takes[n], k.s.Stack.Front, &bound) {
			return api.ErrKind
		}
		k.s.Stack = k.s.Stack.Rest
	}
	if i.Op == code.Tail && bound['R'] != k.wanted() {
		return api.ErrKind
	}
	if !k.rowFits(i) {
		return api.ErrRow
	}
	lays = filled(lays, &bound)
	if len(lays) > api.MaxType {
		return api.ErrLarge
	}
	if i.Op == code.Cast && bound['A'] != k.c.Casts[i.A].From || i.Op == code.Pend && k.c.Casts[i.A].To != k.wanted() {
		return api.ErrFrom
	}
	k.leave(i, lays, &bound)
	return k.goOn(i)
}

func (k *looker) wanted() string {
	if k.s.Waits != "" {
		return k.s.Waits
	}
	return k.f.Result
}

func (k *looker) rowFits(i api.Ins) bool {
	switch i.Op {
	case code.Fn:
		return same(Of(k.c.Functions[i.A].Env), k.s.Row)
	case code.Rec:
		f := k.c.Functions[i.A]
		return same(Of(f.Env), k.s.Row.With(">"+f.Param+f.Result))
	case code.End:
		return k.s.Row.size() > beginning(k.here.Fn, k.f).size()
	}
	return true
}

func (k *looker) leave(i api.Ins, lays string, bound *[128]string) {
	if lays != "" {
		k.s.Stack = k.s.Stack.With(lays)
	}
	switch i.Op {
	case code.Let:
		k.s.Row = k.s.Row.With(bound['T'])
	case code.End:
		k.s.Row = k.s.Row.Rest
	case code.Pend:
		k.s.Waits = k.c.Casts[i.A].From
	}
}

func (k *looker) goOn(i api.Ins) api.Errno {
	var places []int
	if i.Op != code.Jump && i.Op != code.Ret && i.Op != code.Tail {
		places = append(places, k.here.At+1)
	}
	if i.Op == code.Jump || i.Op == code.Unless {
		places = append(places, i.A)
	}
	for _, at := range places {
		old, reached := k.known[Place{k.here.Fn, at}]
		switch {
		case !reached:
			k.known[Place{k.here.Fn, at}] = k.s
		case !same(old.Row, k.s.Row):
			return api.ErrRow
		case !same(old.Stack, k.s.Stack) || old.Waits != k.s.Waits:
			return api.ErrKind
		}
	}
	return api.OK
}

// numbers asks whether A and B are such as the op wants.
func (k *looker) numbers(i api.Ins) api.Errno {
	in := func(n, below int) bool { return n >= 0 && n < below }
	good, e := true, api.ErrOp
	switch i.Op {
	case code.Push:
		good = in(i.A, len(k.c.Nums))
	case code.Text:
		good = in(i.A, len(k.c.Texts))
	case code.Truth:
		good = i.A == 0 || i.A == 1
	case code.Op:
		good = i.A >= 10 && i.A <= 17
	case code.Part:
		good = i.A == 19 || i.A == 20 || i.A == 22 || i.A == 23 || i.A == 24
	case code.List:
		good = i.A >= 0 && in(i.B, len(k.c.Types))
	case code.Local:
		good, e = in(i.A, k.s.Row.size()), api.ErrLocal
	case code.Fn, code.Rec:
		good, e = i.A != 0 && in(i.A, len(k.c.Functions)), api.ErrFn
	case code.Cast, code.Pend:
		good, e = in(i.A, len(k.c.Casts)), api.ErrCast
	case code.Jump, code.Unless:
		good, e = i.A > k.here.At && i.A < len(k.f.Code), api.ErrEnd
	default:
		good = code.Name(i.Op) != ""
	}
	if good {
		return api.OK
	}
	return e
}

// row answers what an instruction takes, the latest last, and lays: types, as patterns in which capitals stand for any.
func (k *looker) row(i api.Ins) (takes []string, lays string) {
	switch i.Op {
	case code.Local:
		row := k.s.Row
		for range i.A {
			row = row.Rest
		}
		return nil, row.Front
	case code.Fn, code.Rec:
		return nil, ">" + k.c.Functions[i.A].Param + k.c.Functions[i.A].Result
	case code.Ret:
		return []string{k.f.Result}, ""
	case code.List:
		return nil, "l" + k.c.Types[i.B]
	case code.Cast:
		return []string{"A"}, k.c.Casts[i.A].To
	}
	from, to, _ := strings.Cut(written(i), ":")
	return strings.Fields(from), strings.TrimSpace(to)
}

// written answers a row of the chapter's table that has nothing else in it.
func written(i api.Ins) string {
	rows, at := ": i/: t/: b/local/fn/rec/>PR P : R/>PR P :/ret/:/b :/T :/:/op/A B : ,AB/part/list/A lA : lA/A : xA/xA : A/xA A : A/cast/:", int(i.Op)-1
	switch i.Op {
	case code.Op:
		rows, at = "i i : i/i i : i/i i : i/t t : t/i i : b/i i : b/i : i/t : i", i.A-int(api.Add)
	case code.Part:
		rows, at = ",AB : A/,AB : B/none/lA : A/lA : lA/lA : b", i.A-int(api.First)
	}
	return strings.Split(rows, "/")[at]
}

// match tells whether a type is such as the pattern says, a capital being bound to what it meets first.
func match(pattern, t string, bound *[128]string) bool {
	for _, c := range []byte(pattern) {
		if c < 'A' || c > 'Z' {
			if t[0] != c {
				return false
			}
			t = t[1:]
			continue
		}
		var one string
		one, t = sample.Cut(t)
		if bound[c] == "" {
			bound[c] = one
		}
		if bound[c] != one {
			return false
		}
	}
	return true
}

// filled answers a pattern with types in the places of capitals.
func filled(pattern string, bound *[128]string) string {
	all := ""
	for _, c := range []byte(pattern) {
		if c >= 'A' && c <= 'Z' {
			all += bound[c]
		} else {
			all += string(rune(c))
		}
	}
	return all
}
