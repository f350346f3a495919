package print

import (
	"strconv"
	"strings"

	"culprit/api"
	"culprit/text"
	"culprit/types"
)

func (p *pen) tree(l []api.Node) {
	p.coming = l
	p.kid(open)
}

// kid writes the part at the node that comes next, in brackets where its rank is lower than the one it is asked for.
func (p *pen) kid(asked int) {
	n := p.coming[0]
	p.coming = p.coming[1:]
	if rankOf(n.Kind) >= asked {
		p.node(n)
		return
	}
	p.put("(")
	p.node(n)
	p.put(")")
}

// node writes a node and its kids, which come next.
func (p *pen) node(n api.Node) {
	switch n.Kind {
	case api.Num, api.Str, api.Truth, api.Var:
		p.put(leaf(n))
	case api.Fn:
		p.function("fn ", n.S, n)
	case api.Rec:
		own, parameter, _ := strings.Cut(n.S, " ")
		p.function("rec "+own+" ", parameter, n)
	case api.Let:
		p.around("let "+n.S+typed(n.T)+" = ", " in ", "")
	case api.If:
		p.around("if ", " then ", " else ", "")
	case api.Set, api.Eq, api.Less, api.Add, api.Sub, api.Join, api.Mul:
		p.infix(n.Kind)
	case api.Neg:
		p.prefix("-")
	case api.Get:
		p.prefix("!")
	case api.Call:
		p.kid(called)
		p.around("(", ")")
	case api.Pair:
		p.around("(", ", ", ")")
	case api.As:
		p.around("(", typed(n.T)+")")
	case api.List:
		p.list(n.Kids)
	case api.Cons:
		p.around("cons(", ", ", ")")
	default:
		p.around(word(n.Kind)+"(", ")")
	}
}

func leaf(n api.Node) string {
	switch {
	case n.Kind == api.Num:
		return strconv.FormatInt(n.N, 10)
	case n.Kind == api.Str:
		quoted, _ := text.Quote(n.S)
		return quoted
	case n.Kind == api.Var:
		return n.S
	case n.N == 1:
		return "true"
	}
	return "false"
}

// typed answers how an annotation stands behind what it is of; an absent one does not stand there.
func typed(t string) string {
	if t == "" {
		return ""
	}
	words, _ := types.Words(t)
	return " : " + words
}

func (p *pen) function(ahead, parameter string, n api.Node) {
	p.put(ahead, "(", parameter, typed(n.T), ")", typed(n.U), " => ")
	p.kid(open)
}

func (p *pen) prefix(mark string) {
	p.put(mark)
	p.kid(signed)
}

func (p *pen) infix(kind int8) {
	left, mark, right := operator(kind)
	p.kid(left)
	p.put(" ", mark, " ")
	p.kid(right)
}

// operator answers a mark with the ranks that it asks of what stands at its left and at its right.
func operator(kind int8) (left int, mark string, right int) {
	switch kind {
	case api.Set:
		return compared, ":=", open
	case api.Eq:
		return summed, "==", summed
	case api.Less:
		return summed, "<", summed
	case api.Add:
		return summed, "+", multiplied
	case api.Sub:
		return summed, "-", multiplied
	case api.Join:
		return summed, "++", multiplied
	}
	return multiplied, "*", signed
}

func (p *pen) list(kids int) {
	p.put("[")
	comma := p.between(", ")
	for range kids {
		comma()
		p.kid(open)
	}
	p.put("]")
}

// word answers what stands ahead of the brackets of a kind that has one kid in them.
func word(kind int8) string {
	switch kind {
	case api.Box:
		return "box"
	case api.Size:
		return "size"
	case api.First:
		return "first"
	case api.Second:
		return "second"
	case api.Head:
		return "head"
	case api.Tail:
		return "tail"
	}
	return "empty"
}
