package parse

import "culprit/api"

func forms() map[string]rule {
	return map[string]rule{
		"fn":  (*parser).function,
		"rec": (*parser).recursive,
		"let": (*parser).let,
		"if":  (*parser).choice,
	}
}

func (p *parser) expr() *branch {
	if form, ok := p.forms[p.sign()]; ok {
		return form(p)
	}
	left := p.rank()
	if p.sign() == ":=" {
		return p.binary(api.Set, left, (*parser).expr)
	}
	return left
}

func (p *parser) function() *branch {
	at := p.expect("fn")
	return p.lambda(api.Fn, at, "")
}

func (p *parser) recursive() *branch {
	at := p.expect("rec")
	return p.lambda(api.Rec, at, p.name().S+" ")
}

// lambda reads what a fn and a rec have in common; ahead stands in its node ahead of the parameter's name.
func (p *parser) lambda(kind int8, at api.Place, ahead string) *branch {
	p.expect("(")
	parameter := p.name().S
	t := p.annotation()
	p.expect(")")
	u := p.annotation()
	p.expect("=>")
	b := p.grow(kind, at, p.expr())
	b.S, b.T, b.U = ahead+parameter, t, u
	return b
}

func (p *parser) let() *branch {
	at := p.expect("let")
	name := p.name().S
	t := p.annotation()
	p.expect("=")
	bound := p.expr()
	p.expect("in")
	b := p.grow(api.Let, at, bound, p.expr())
	b.S, b.T = name, t
	return b
}

func (p *parser) choice() *branch {
	at := p.expect("if")
	condition := p.expr()
	p.expect("then")
	yes := p.expr()
	p.expect("else")
	return p.grow(api.If, at, condition, yes, p.expr())
}

func (p *parser) rank() *branch {
	left := p.sum()
	switch p.sign() {
	case "==":
		return p.binary(api.Eq, left, (*parser).sum)
	case "<":
		return p.binary(api.Less, left, (*parser).sum)
	}
	return left
}

func (p *parser) sum() *branch {
	left := p.term()
	for {
		switch p.sign() {
		case "+":
			left = p.binary(api.Add, left, (*parser).term)
		case "-":
			left = p.binary(api.Sub, left, (*parser).term)
		case "++":
			left = p.binary(api.Join, left, (*parser).term)
		default:
			return left
		}
	}
}

func (p *parser) term() *branch {
	left := p.factor()
	for p.sign() == "*" {
		left = p.binary(api.Mul, left, (*parser).factor)
	}
	return left
}

// binary takes the mark of an operator, and what stands behind it.
func (p *parser) binary(kind int8, left *branch, right rule) *branch {
	at := p.take().At
	return p.grow(kind, at, left, right(p))
}

func (p *parser) factor() *branch {
	switch p.sign() {
	case "-":
		return p.unary(api.Neg)
	case "!":
		return p.unary(api.Get)
	}
	return p.call()
}

func (p *parser) unary(kind int8) *branch {
	at := p.take().At
	return p.grow(kind, at, p.factor())
}

func (p *parser) call() *branch {
	called := p.atom()
	for p.sign() == "(" {
		at := p.take().At
		argument := p.expr()
		p.expect(")")
		called = p.grow(api.Call, at, called, argument)
	}
	return called
}
