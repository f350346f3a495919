package parse

import "culprit/types"

// annotation reads the type behind a colon; without a colon it is absent.
func (p *parser) annotation() string {
	if p.sign() != ":" {
		return ""
	}
	p.take()
	return p.written()
}

// written reads a type that is no part of another one.
func (p *parser) written() string {
	at := p.place()
	t := p.arrow()
	if t == "" {
		p.pass(largeType, at)
	}
	return t
}

// arrow reads a type; a text of no letters stands for one that is too large.
func (p *parser) arrow() string {
	from := p.arm()
	if p.sign() != "->" {
		return from
	}
	p.take()
	return made('>', from, p.arrow())
}

func (p *parser) arm() string {
	switch word := p.sign(); word {
	case "int", "bool", "text", "?":
		p.take()
		return word[:1] // each of these words begins with its type's letter
	case "(":
		p.take()
		t := p.arrow()
		if p.sign() == "," {
			p.take()
			t = made(',', t, p.arrow())
		}
		p.expect(")")
		return t
	case "[":
		p.take()
		t := made('l', p.arrow())
		p.expect("]")
		return t
	case "box":
		p.take()
		return made('x', p.arm())
	}
	panic(p.misplaced())
}

// made answers no letters where the type, or one of its parts already, is too large.
func made(head byte, parts ...string) string {
	t, _ := types.Make(head, parts...)
	return t
}
