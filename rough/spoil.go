package rough

import (
	"math"
	"slices"

	"culprit/api"
)

// Spoilt answers code that differs from c in one thing. It may be such as may run, too.
func (g *Maker) Spoilt(c api.Code) api.Code {
	c = Clone(c)
	n := g.Below(12)
	if len(c.Functions) == 0 {
		n = 0
	}
	switch n {
	case 0:
		g.spoilLists(&c)
	case 1:
		g.spoilHead(&c.Functions[g.Below(len(c.Functions))])
	default:
		f := &c.Functions[g.Below(len(c.Functions))]
		if len(f.Code) > 0 {
			g.spoilBody(f)
		}
	}
	return c
}

func (g *Maker) spoilLists(c *api.Code) {
	switch g.Below(6) {
	case 0:
		c.Nums = c.Nums[:g.Below(1+len(c.Nums))]
	case 1:
		c.Texts = c.Texts[:g.Below(1+len(c.Texts))]
	case 2:
		if len(c.Types) > 0 {
			c.Types[g.Below(len(c.Types))] = g.One("", "z", "ii", "i", "?", g.Typ(3))
		}
	case 3:
		c.Functions = c.Functions[:g.Below(1+len(c.Functions))]
	default:
		if len(c.Casts) > 0 {
			g.spoilCast(&c.Casts[g.Below(len(c.Casts))])
		}
	}
}

func (g *Maker) spoilCast(w *api.Waits) {
	n := g.Below(4)
	if len(w.Co) == 0 {
		n /= 2
	}
	switch n {
	case 0:
		w.From = g.One("", "z", "?", g.Typ(3))
	case 1:
		w.To = g.One("", "z", "?", g.Typ(3))
	case 2:
		w.Co = w.Co[:g.Below(len(w.Co))]
	case 3:
		n := &w.Co[g.Below(len(w.Co))]
		n.Head = []byte("ibt>,lx?")[g.Below(8)]
	}
}

func (g *Maker) spoilHead(f *api.Function) {
	other := g.One("", "z", "ii", "i", "?", g.Typ(3))
	switch n := g.Below(4); {
	case n == 0:
		f.Param = other
	case n == 1:
		f.Result = other
	case n == 2 && len(f.Env) > 0:
		f.Env[g.Below(len(f.Env))] = other
	default:
		f.Env = slices.Insert(f.Env, g.Below(1+len(f.Env)), other)
	}
}

func (g *Maker) spoilBody(f *api.Function) {
	at := g.Below(len(f.Code))
	i := &f.Code[at]
	switch g.Below(6) {
	case 0:
		i.A += 1 - 2*g.Below(2)
	case 1:
		i.A = []int{-1, 0, 1, 2, 3, 17, 18, 24, len(f.Code) - 1, len(f.Code), math.MaxInt, math.MinInt}[g.Below(12)]
	case 2:
		i.B = []int{-1, 0, 1, 2, 3, math.MaxInt, math.MinInt}[g.Below(7)]
	case 3:
		i.Op = int8(g.Below(27) - 2)
	case 4:
		f.Code = slices.Delete(f.Code, at, at+1)
	case 5:
		f.Code = slices.Insert(f.Code, at, api.Ins{Op: int8(1 + g.Below(23)), A: g.Below(4)})
	}
}
