package coerce_test

import (
	"math"
	"slices"
	"strings"

	"culprit/api"
)

// What is here is the chapter once more, for the tests alone, over nodes that hold their kids.

type co struct {
	api.Co
	kids []co
}

func kidsOf(op int8) int {
	return map[int8]int{api.CoFun: 2, api.CoPair: 2, api.CoList: 1, api.CoBox: 2}[op]
}

// nested answers a list as a node with its kids, if it has just the nodes of one.
func nested(l []api.Co) (co, bool) {
	c, rest, ok := nestedFirst(l)
	return c, ok && len(rest) == 0
}

func nestedFirst(l []api.Co) (co, []api.Co, bool) {
	if len(l) == 0 {
		return co{}, nil, false
	}
	c, rest := co{Co: l[0]}, l[1:]
	for range kidsOf(c.Op) {
		kid, behind, ok := nestedFirst(rest)
		if !ok {
			return co{}, nil, false
		}
		c.kids, rest = append(c.kids, kid), behind
	}
	return c, rest, true
}

func (c co) list() []api.Co {
	l := []api.Co{c.Co}
	for _, kid := range c.kids {
		l = append(l, kid.list()...)
	}
	return l
}

func (c co) high() int {
	h := 0
	for _, kid := range c.kids {
		h = max(h, kid.high())
	}
	return h + 1
}

func (c co) begins() bool { return c.Op == api.CoAny || c.Proj != 0 }

func (c co) ends() bool { return c.Op == api.CoAny || c.Op == api.CoFail || c.Inj }

func label(n int64) bool {
	return n >= 1 && n <= math.MaxInt32 || n <= -1 && n >= -math.MaxInt32
}

// named answers which fields a node of an op has, and what its Head may be.
func named(op int8) (fields, letters string) {
	switch op {
	case api.CoAny:
		return "", "\x00"
	case api.CoBase:
		return "Head Proj Inj", "ibt"
	case api.CoFun:
		return "Head Proj Inj", ">"
	case api.CoPair:
		return "Head Proj Inj", ","
	case api.CoList:
		return "Head Proj Inj", "l"
	case api.CoBox:
		return "Head Proj Inj", "x"
	case api.CoFail:
		return "Head From To Proj Label", heads
	}
	return "", ""
}

// rowMay: the row of the chapter's table.
func rowMay(n api.Co) bool {
	fields, letters := named(n.Op)
	if strings.IndexByte(letters, n.Head) < 0 || n.Proj != 0 && !label(n.Proj) {
		return false
	}
	if n.Op == api.CoFail && (n.From != n.Head || strings.IndexByte(heads, n.To) < 0 || n.To == n.From || !label(n.Label)) {
		return false
	}
	for _, field := range strings.Fields(fields) {
		blank(&n, field)
	}
	return n == api.Co{Op: n.Op}
}

func blank(n *api.Co, field string) {
	switch field {
	case "Head":
		n.Head = 0
	case "Proj":
		n.Proj = 0
	case "Inj":
		n.Inj = false
	case "From":
		n.From = 0
	case "To":
		n.To = 0
	case "Label":
		n.Label = 0
	}
}

// groundMay: what stands between a ? and a thing is a ground.
func (c co) groundMay() bool {
	ok := func(holds bool, asked bool) bool { return holds || !asked }
	proj, inj := c.Proj != 0, c.Inj
	switch c.Op {
	case api.CoFun:
		k, l := c.kids[0], c.kids[1]
		return ok(k.begins() && l.ends(), inj) && ok(k.ends() && l.begins(), proj)
	case api.CoPair:
		k, l := c.kids[0], c.kids[1]
		return ok(k.ends() && l.ends(), inj) && ok(k.begins() && l.begins(), proj)
	case api.CoList:
		k := c.kids[0]
		return ok(k.ends(), inj) && ok(k.begins(), proj)
	case api.CoBox:
		k, l := c.kids[0], c.kids[1]
		return ok(k.ends() && l.begins(), inj) && ok(k.begins() && l.ends(), proj)
	}
	return true
}

func (c co) may() bool {
	return rowMay(c.Co) && c.groundMay() && !slices.ContainsFunc(c.kids, func(kid co) bool { return !kid.may() })
}

func may(l []api.Co) bool {
	c, ok := nested(l)
	return ok && c.may() && c.high() <= 64
}

func (c co) isId() bool {
	if c.Op == api.CoAny {
		return true
	}
	return c.Proj == 0 && !c.Inj && c.Op != api.CoFail && !slices.ContainsFunc(c.kids, func(kid co) bool { return !kid.isId() })
}

// from tells whether c begins with a type, to whether it ends with one: each end by itself.
func (c co) from(t string) bool {
	if c.begins() || t == "?" {
		return c.begins() && t == "?"
	}
	if c.Head != t[0] || c.Op == api.CoFail {
		return c.Head == t[0]
	}
	parts := partsOf(t)
	switch c.Op {
	case api.CoFun:
		return c.kids[0].to(parts[0]) && c.kids[1].from(parts[1])
	case api.CoPair:
		return c.kids[0].from(parts[0]) && c.kids[1].from(parts[1])
	case api.CoList:
		return c.kids[0].from(parts[0])
	case api.CoBox:
		return c.kids[0].from(parts[0]) && c.kids[1].to(parts[0])
	}
	return true
}

func (c co) to(t string) bool {
	if c.Op == api.CoFail {
		return true
	}
	if c.ends() || t == "?" {
		return c.ends() && t == "?"
	}
	if c.Head != t[0] {
		return false
	}
	parts := partsOf(t)
	switch c.Op {
	case api.CoFun:
		return c.kids[0].from(parts[0]) && c.kids[1].to(parts[1])
	case api.CoPair:
		return c.kids[0].to(parts[0]) && c.kids[1].to(parts[1])
	case api.CoList:
		return c.kids[0].to(parts[0])
	case api.CoBox:
		return c.kids[0].to(parts[0]) && c.kids[1].from(parts[0])
	}
	return true
}

// meet is asked from the first sentence of the chapter's on: one that holds is enough.
func meet(s, t co) bool {
	if s.Op == api.CoFail {
		return true
	}
	if s.Op == api.CoAny && t.begins() || t.Op == api.CoAny && s.ends() {
		return true
	}
	if s.Op == api.CoAny || t.Op == api.CoAny {
		return false
	}
	if s.ends() && t.begins() && s.Head != t.Head {
		return true
	}
	if s.ends() != t.begins() || s.Head != t.Head {
		return false
	}
	if t.Op == api.CoFail {
		return true
	}
	for i := range s.kids {
		if turned(s.Op, i) && !meet(t.kids[i], s.kids[i]) || !turned(s.Op, i) && !meet(s.kids[i], t.kids[i]) {
			return false
		}
	}
	return true
}

// turned tells which kids go the other way.
func turned(op int8, kid int) bool {
	return op == api.CoFun && kid == 0 || op == api.CoBox && kid == 1
}

func then(s, t co) co {
	switch {
	case s.Op == api.CoFail || t.Op == api.CoAny:
		return s
	case s.Op == api.CoAny:
		return t
	case s.ends() && s.Head != t.Head:
		return co{Co: api.Co{Op: api.CoFail, Proj: s.Proj, Head: s.Head, Label: t.Proj, From: s.Head, To: t.Head}}
	case t.Op == api.CoFail:
		both := t
		both.Proj = s.Proj
		return both
	}
	both := co{Co: api.Co{Op: s.Op, Head: s.Head, Proj: s.Proj, Inj: t.Inj}}
	for i := range s.kids {
		if turned(s.Op, i) {
			both.kids = append(both.kids, then(t.kids[i], s.kids[i]))
		} else {
			both.kids = append(both.kids, then(s.kids[i], t.kids[i]))
		}
	}
	return both
}

// of follows the chapter's words, step by step, for consistent types.
func of(from, to string, label int64) co {
	if from == "?" && to == "?" {
		return co{Co: api.Co{Op: api.CoAny}}
	}
	if to == "?" {
		c := of(from, groundOf(from[0]), label)
		c.Inj = true
		return c
	}
	if from == "?" {
		c := of(groundOf(to[0]), to, label)
		c.Proj = label
		return c
	}
	a, b := partsOf(from), partsOf(to)
	switch from[0] {
	case '>':
		return co{api.Co{Op: api.CoFun, Head: '>'}, []co{of(b[0], a[0], -label), of(a[1], b[1], label)}}
	case ',':
		return co{api.Co{Op: api.CoPair, Head: ','}, []co{of(a[0], b[0], label), of(a[1], b[1], label)}}
	case 'l':
		return co{api.Co{Op: api.CoList, Head: 'l'}, []co{of(a[0], b[0], label)}}
	case 'x':
		return co{api.Co{Op: api.CoBox, Head: 'x'}, []co{of(a[0], b[0], label), of(b[0], a[0], -label)}}
	}
	return co{Co: api.Co{Op: api.CoBase, Head: from[0]}}
}
