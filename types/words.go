package types

import (
	"strings"

	"culprit/api"
)

// Words writes a type as sources have it.
func Words(t string) (string, api.Errno) {
	if e, _ := Check(t); e != api.OK {
		return "", e
	}
	var p pen
	p.whole(t)
	return p.String(), api.OK
}

// pen writes the words of types, which must be ones.
type pen struct {
	strings.Builder
}

// whole writes t where all that follows up to the next bracket or comma is its own.
func (p *pen) whole(t string) {
	parts := Parts(t)
	switch t[0] {
	case 'i':
		p.WriteString("int")
	case 'b':
		p.WriteString("bool")
	case 't':
		p.WriteString("text")
	case '?':
		p.WriteString("?")
	case '>':
		p.arm(parts[0])
		p.WriteString(" -> ")
		p.whole(parts[1])
	case ',':
		p.between("(", ")", func() {
			p.whole(parts[0])
			p.WriteString(", ")
			p.whole(parts[1])
		})
	case 'l':
		p.between("[", "]", func() { p.whole(parts[0]) })
	case 'x':
		p.WriteString("box ")
		p.arm(parts[0])
	}
}

// arm writes t where a -> behind it, or inside it, would be taken for another's.
func (p *pen) arm(t string) {
	if t[0] != '>' {
		p.whole(t)
		return
	}
	p.between("(", ")", func() { p.whole(t) })
}

func (p *pen) between(left, right string, inside func()) {
	p.WriteString(left)
	inside()
	p.WriteString(right)
}
