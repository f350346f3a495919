package code

import (
	"strconv"
	"strings"

	"culprit/api"
)

const hexDigits = "0123456789abcdef"

// Show answers the lines of code, whether it may run or not.
func Show(c api.Code) string {
	var p pen
	for _, n := range c.Nums {
		p.WriteString("num ")
		p.number(n)
		p.endLine()
	}
	for _, s := range c.Texts {
		p.WriteString("text ")
		p.quoted(s)
		p.endLine()
	}
	for _, t := range c.Types {
		p.WriteString("type ")
		p.quoted(t)
		p.endLine()
	}
	for _, w := range c.Casts {
		p.cast(w)
	}
	for _, f := range c.Functions {
		p.function(f)
	}
	return p.String()
}

// pen writes the lines of code, one behind the other.
type pen struct{ strings.Builder }

func (p *pen) blank() { p.WriteByte(' ') }

func (p *pen) endLine() { p.WriteByte('\n') }

func (p *pen) number(n int64) { p.WriteString(strconv.FormatInt(n, 10)) }

func (p *pen) quoted(s string) {
	p.WriteByte('"')
	for i := range len(s) {
		b := s[i]
		if isPlain(b) {
			p.WriteByte(b)
			continue
		}
		p.WriteString(`\x`)
		p.WriteByte(hexDigits[b>>4])
		p.WriteByte(hexDigits[b&15])
	}
	p.WriteByte('"')
}

// isPlain: the byte stands in quotes as it is.
func isPlain(b byte) bool {
	return 32 <= b && b <= 126 && b != '"' && b != '\\'
}

func (p *pen) cast(w api.Waits) {
	p.WriteString("cast ")
	p.quoted(w.From)
	p.blank()
	p.quoted(w.To)
	for _, n := range w.Co {
		p.blank()
		p.node(n)
	}
	p.endLine()
}

func (p *pen) node(n api.Co) {
	inj := int64(0)
	if n.Inj {
		inj = 1
	}
	for i, field := range [...]int64{int64(n.Op), n.Proj, inj, int64(n.Head), n.Label, int64(n.From), int64(n.To)} {
		if i > 0 {
			p.WriteByte('.')
		}
		p.number(field)
	}
}

func (p *pen) function(f api.Function) {
	p.WriteString("fn ")
	for _, t := range f.Env {
		p.quoted(t)
		p.blank()
	}
	p.WriteString(": ")
	p.quoted(f.Param)
	p.blank()
	p.quoted(f.Result)
	p.endLine()
	for _, i := range f.Code {
		p.instruction(i)
	}
}

func (p *pen) instruction(i api.Ins) {
	p.blank()
	if name := Name(i.Op); name != "" {
		p.WriteString(name)
	} else {
		p.WriteByte('#')
		p.number(int64(i.Op))
	}
	p.blank()
	p.number(int64(i.A))
	p.blank()
	p.number(int64(i.B))
	p.endLine()
}
