package parse

import (
	"culprit/api"
	"culprit/text"
)

func atoms() map[string]rule {
	return map[string]rule{
		"true":   (*parser).truth,
		"false":  (*parser).truth,
		"(":      (*parser).brackets,
		"[":      (*parser).list,
		"box":    (*parser).applied,
		"size":   (*parser).applied,
		"first":  (*parser).applied,
		"second": (*parser).applied,
		"head":   (*parser).applied,
		"tail":   (*parser).applied,
		"empty":  (*parser).applied,
		"cons":   (*parser).cons,
	}
}

func (p *parser) atom() *branch {
	switch p.kind() {
	case text.Number:
		return p.leaf(api.Num)
	case text.Text:
		return p.leaf(api.Str)
	case text.Name:
		return p.leaf(api.Var)
	}
	if atom, ok := p.atoms[p.sign()]; ok {
		return atom(p)
	}
	panic(p.misplaced())
}

// leaf takes a token that says what stands in its node.
func (p *parser) leaf(kind int8) *branch {
	token := p.take()
	b := p.grow(kind, token.At)
	b.N, b.S = token.N, token.S
	return b
}

func (p *parser) truth() *branch {
	token := p.take()
	b := p.grow(api.Truth, token.At)
	if token.S == "true" {
		b.N = 1
	}
	return b
}

// brackets reads a pair, or an expression with a type; around one that stands alone they leave no node.
func (p *parser) brackets() *branch {
	at := p.expect("(")
	inside := p.expr()
	switch p.sign() {
	case ",":
		p.take()
		inside = p.grow(api.Pair, at, inside, p.expr())
	case ":":
		inside = p.grow(api.As, p.take().At, inside)
		inside.T = p.written()
	}
	p.expect(")")
	return inside
}

func (p *parser) list() *branch {
	at := p.expect("[")
	var elements []*branch
	if p.sign() != "]" {
		elements = append(elements, p.expr())
		for p.sign() == "," {
			p.take()
			elements = append(elements, p.expr())
		}
	}
	p.expect("]")
	return p.grow(api.List, at, elements...)
}

func (p *parser) applied() *branch {
	word := p.take()
	p.expect("(")
	operand := p.expr()
	p.expect(")")
	return p.grow(appliedKinds()[word.S], word.At, operand)
}

func appliedKinds() map[string]int8 {
	return map[string]int8{
		"box": api.Box, "size": api.Size,
		"first": api.First, "second": api.Second,
		"head": api.Head, "tail": api.Tail, "empty": api.Empty,
	}
}

func (p *parser) cons() *branch {
	at := p.expect("cons")
	p.expect("(")
	head := p.expr()
	p.expect(",")
	tail := p.expr()
	p.expect(")")
	return p.grow(api.Cons, at, head, tail)
}
