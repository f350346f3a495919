package emit_test

import (
	"fmt"
	"slices"
	"strings"

	"culprit/api"
	"culprit/coerce"
	"culprit/sample"
	"culprit/types"
)

// state: the types of a row, the nearest first; those of a stack, the latest last; and what waits.
type state struct {
	row, stack []string
	waits      string
}

// looker goes over one function as chapter 20 says, in the order of its places.
type looker struct {
	c     api.Code
	f     api.Function
	known map[int]state
	s     state
	at    int
	why   string // what is wrong, once something is
}

func (k *looker) ask(holds bool, why string) {
	if !holds && k.why == "" {
		k.why = why
	}
}

func (k *looker) take() string {
	last := len(k.s.stack) - 1
	if last < 0 {
		k.ask(false, "the stack is too short")
		return "i"
	}
	t := k.s.stack[last]
	k.s.stack = k.s.stack[:last]
	return t
}

func (k *looker) takeIs(wanted string) {
	if t := k.take(); t != wanted {
		k.ask(false, t+" is not "+wanted)
	}
}

func (k *looker) takeHead(head string) (one, other string) {
	t := k.take()
	if !strings.HasPrefix(t, head) {
		k.ask(false, t+" has no head "+head)
		return "i", "i"
	}
	return sample.Cut(t[1:])
}

func (k *looker) lay(t string) {
	e, _ := types.Check(t)
	k.ask(e == api.OK, "no type: "+t)
	k.s.stack = append(k.s.stack, t)
}

func (k *looker) place(a, length int) int {
	if a < 0 || a >= length {
		k.ask(false, "no such place")
		return -1
	}
	return a
}

// goes has the state reach a place.
func (k *looker) goes(to int) {
	s := state{k.s.row, slices.Clone(k.s.stack), k.s.waits}
	if old, reached := k.known[to]; reached {
		k.ask(slices.Equal(old.row, s.row) && slices.Equal(old.stack, s.stack) && old.waits == s.waits, fmt.Sprintf("two states at %d", to))
		return
	}
	k.known[to] = s
}

func (k *looker) answers(t string) {
	wanted := k.f.Result
	if k.s.waits != "" {
		wanted = k.s.waits
	}
	k.ask(t == wanted, t+" is given, "+wanted+" wanted")
}

func (k *looker) jump(a int) {
	if a <= k.at || a >= len(k.f.Code) {
		k.ask(false, "a jump to no place ahead")
		return
	}
	k.goes(a)
}

// one looks at one instruction, and has the places reached at which it goes on.
func (k *looker) one(i api.Ins) {
	op := ops[i.Op]
	k.ask(k.s.waits == "" || op == "pend" || op == "tail", "something waits")
	switch op {
	case "tail":
		x := k.take()
		from, to := k.takeHead(">")
		k.ask(from == x && len(k.s.stack) == 0, "a call of others, or not alone")
		k.answers(to)
		return
	case "ret":
		k.takeIs(k.f.Result)
		k.ask(len(k.s.stack) == 0, "more lies there")
		return
	case "jump":
		k.jump(i.A)
		return
	case "unless":
		k.takeIs("b")
		k.goes(k.at + 1)
		k.jump(i.A)
		return
	case "fn", "rec":
		k.function(op, i.A)
	default:
		k.other(op, i)
	}
	k.goes(k.at + 1)
}

func (k *looker) function(op string, a int) {
	if a = k.place(a, len(k.c.Functions)); a <= 0 {
		k.ask(false, "no such function")
		return
	}
	g := k.c.Functions[a]
	own, env := ">"+g.Param+g.Result, k.s.row
	if op == "rec" {
		env = append([]string{own}, env...)
	}
	k.ask(slices.Equal(g.Env, env), "another row")
	k.lay(own)
}

func (k *looker) other(op string, i api.Ins) {
	switch op {
	case "push":
		k.place(i.A, len(k.c.Nums))
		k.lay("i")
	case "text":
		k.place(i.A, len(k.c.Texts))
		k.lay("t")
	case "truth":
		k.place(i.A, 2)
		k.lay("b")
	case "local":
		if a := k.place(i.A, len(k.s.row)); a >= 0 {
			k.lay(k.s.row[a])
		}
	case "call":
		x := k.take()
		from, to := k.takeHead(">")
		k.ask(from == x, x+" is handed to a function of "+from)
		k.lay(to)
	case "let":
		k.s.row = append([]string{k.take()}, k.s.row...)
	case "end":
		least := len(k.f.Env) + 1
		if k.at >= 0 && k.f.Param == "" {
			least = 0
		}
		if len(k.s.row) <= least {
			k.ask(false, "no Let to be ended")
			return
		}
		k.s.row = k.s.row[1:]
	case "op":
		k.operation(int8(i.A))
	case "cast":
		if a := k.place(i.A, len(k.c.Casts)); a >= 0 {
			k.takeIs(k.c.Casts[a].From)
			k.lay(k.c.Casts[a].To)
		}
	case "pend":
		if a := k.place(i.A, len(k.c.Casts)); a >= 0 {
			k.ask(len(k.s.stack) == 2, "not two lie there")
			k.answers(k.c.Casts[a].To)
			k.s.waits = k.c.Casts[a].From
		}
	default:
		k.made(op, i)
	}
}

func (k *looker) operation(kind int8) {
	switch kind {
	case api.Join:
		k.takeIs("t")
		k.takeIs("t")
		k.lay("t")
	case api.Size:
		k.takeIs("t")
		k.lay("i")
	case api.Neg:
		k.takeIs("i")
		k.lay("i")
	case api.Add, api.Sub, api.Mul, api.Eq, api.Less:
		k.takeIs("i")
		k.takeIs("i")
		k.lay(map[bool]string{false: "i", true: "b"}[kind >= api.Eq])
	default:
		k.ask(false, "no operation")
	}
}

// made: what makes pairs, lists and boxes, and takes them apart.
func (k *looker) made(op string, i api.Ins) {
	switch op {
	case "pair":
		second := k.take()
		k.lay("," + k.take() + second)
	case "part":
		switch int8(i.A) {
		case api.First:
			one, _ := k.takeHead(",")
			k.lay(one)
		case api.Second:
			_, other := k.takeHead(",")
			k.lay(other)
		case api.Head:
			one, _ := k.takeHead("l")
			k.lay(one)
		case api.Tail:
			one, _ := k.takeHead("l")
			k.lay("l" + one)
		case api.Empty:
			k.takeHead("l")
			k.lay("b")
		default:
			k.ask(false, "no part")
		}
	case "list":
		if b := k.place(i.B, len(k.c.Types)); b >= 0 {
			for range i.A {
				k.takeIs(k.c.Types[b])
			}
			k.lay("l" + k.c.Types[b])
		}
	case "cons":
		list := k.take()
		k.ask(list == "l"+k.take(), "an element of another type")
		k.lay(list)
	case "box":
		k.lay("x" + k.take())
	case "get":
		one, _ := k.takeHead("x")
		k.lay(one)
	case "set":
		v := k.take()
		one, _ := k.takeHead("x")
		k.ask(one == v, v+" is set into a box of "+one)
		k.lay(v)
	default:
		k.ask(false, "no such op")
	}
}

// whyNot answers why code may not run, nothing if it may; and how many of its instructions are not reached.
func whyNot(c api.Code) (string, int) {
	for i, w := range c.Casts {
		if !coerce.Fits(w.Co, w.From, w.To) {
			return fmt.Sprintf("the cast %d does not fit", i), 0
		}
	}
	unreached := 0
	for n, f := range c.Functions {
		k := looker{c: c, f: f}
		begin := state{row: append([]string{f.Param}, f.Env...)}
		if n == 0 {
			begin.row = nil
		}
		k.known = map[int]state{0: begin}
		for at := 0; at <= len(f.Code); at++ {
			s, reached := k.known[at]
			switch {
			case !reached && at < len(f.Code):
				unreached++
				continue
			case !reached:
				continue
			case at == len(f.Code):
				return fmt.Sprintf("the function %d has no end", n), unreached
			}
			k.s, k.at = state{s.row, slices.Clone(s.stack), s.waits}, at
			if k.one(f.Code[at]); k.why != "" {
				return fmt.Sprintf("%s, in the function %d at %d", k.why, n, at), unreached
			}
		}
	}
	return "", unreached
}
