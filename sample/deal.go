package sample

import (
	"math"
	"slices"
	"strings"

	"culprit/api"
	"culprit/relate"
)

// Dice deals numbers by a rule, so that each run of a test deals the same ones.
type Dice uint64

// Below answers a number from 0 on, below n.
func (d *Dice) Below(n int) int {
	*d = *d*6364136223846793005 + 1442695040888963407
	return int(uint64(*d) >> 33 % uint64(n))
}

// Coin answers one of two.
func (d *Dice) Coin() bool { return d.Below(2) == 0 }

// One answers one of some texts.
func (d *Dice) One(texts ...string) string { return texts[d.Below(len(texts))] }

// Maker makes terms of types that are asked for. Static ones have no ? at all, but may have casts, from a type to itself.
type Maker struct {
	Dice
	Static bool
	labels int64 // how many were laid
}

// Typ answers a type with room for so many letters, about.
func (g *Maker) Typ(room int) string {
	if room < 2 || g.Below(3) == 0 {
		if g.Static {
			return g.One("i", "b", "t")
		}
		return g.One("i", "b", "t", "?", "?")
	}
	switch head := g.One(">", ",", "l", "x"); head {
	case ">", ",":
		return head + g.Typ(room/2) + g.Typ(room/2)
	default:
		return head + g.Typ(room-1)
	}
}

// Near answers a type that is consistent with t.
func (g *Maker) Near(t string) string {
	if g.Static {
		return t
	}
	looser := t
	for g.Below(3) > 0 {
		if all := relate.Looser(looser); len(all) > 0 {
			looser = g.One(all...)
		}
	}
	all := ""
	for _, letter := range strings.Split(looser, "") {
		if letter == "?" && g.Coin() {
			letter = g.Typ(4)
		}
		all += letter
	}
	if len(all) > 64 || !relate.Consistent(all, t) {
		return looser
	}
	return all
}

// Label answers a new one, or one that stands already.
func (g *Maker) Label() int64 {
	if g.labels > 0 && g.Below(8) == 0 {
		return int64(1 + g.Below(int(g.labels)))
	}
	g.labels++
	return g.labels
}

// plain makes a term of a type without going deeper than its letters do.
func (g *Maker) plain(t string, env []string) []api.Node {
	var fitting []int64
	for i, bound := range env {
		if bound == t {
			fitting = append(fitting, int64(i))
		}
	}
	if len(fitting) > 0 && g.Below(4) > 0 {
		return Var(fitting[g.Below(len(fitting))])
	}
	switch t {
	case "i":
		return Num([]int64{0, 1, 2, 3, -1, math.MaxInt64, math.MinInt64}[g.Below(7)])
	case "b":
		return Truth(int64(g.Below(2)))
	case "t":
		return Str(g.One("", "a", "bc"))
	case "?":
		from := g.One("i", "b", "t", "l?", ">??", "x?")
		return Cast(from, "?", g.Label(), Witness(from))
	}
	return Witness(t)
}

func (g *Maker) function(t string, env []string, deep int) []api.Node {
	from, to := Cut(t[1:])
	if g.Below(3) > 0 {
		return Fn(from, to, g.Part(to, append([]string{from}, env...), deep-1))
	}
	return Rec(from, to, g.Part(to, append([]string{from, t}, env...), deep-1))
}

// Part makes a term of just this type, below binders of those types, the nearest one first.
func (g *Maker) Part(t string, env []string, deep int) []api.Node {
	if deep <= 0 || slices.Contains(env, t) && g.Below(3) == 0 {
		return g.plain(t, env)
	}
	kid := func(t string) []api.Node { return g.Part(t, env, deep-1) }
	if g.Below(4) == 0 {
		from := g.Near(t)
		return Cast(from, t, g.Label(), kid(from))
	}
	if g.Below(3) == 0 {
		if l := g.call(t, env, deep); l != nil {
			return l
		}
	}
	room := len(t) < 50
	switch g.Below(20) {
	case 0:
		return g.plain(t, env)
	case 1, 9, 10:
		bound := g.One(g.Typ(4), t)
		return Of(api.Let, kid(bound), g.Part(t, append([]string{bound}, env...), deep-1))
	case 2:
		return Of(api.If, kid("b"), kid(t), kid(t))
	case 3, 11, 12:
		if from := g.Typ(4); room {
			return Of(api.Call, kid(">"+from+t), kid(from))
		}
	case 4:
		if room {
			return Of(api.First, kid(","+t+g.Typ(2)))
		}
	case 5:
		if room {
			return Of(api.Second, kid(","+g.Typ(2)+t))
		}
	case 6:
		if room {
			return Of(api.Head, kid("l"+t))
		}
	case 7:
		if room {
			return Of(api.Get, kid("x"+t))
		}
	case 8:
		if room {
			return Of(api.Set, kid("x"+t), kid(t))
		}
	}
	return g.own(t, env, deep)
}

// call makes a call of a function that a binder has, if one of them gives that type.
func (g *Maker) call(t string, env []string, deep int) []api.Node {
	for i, bound := range env {
		if bound[0] != '>' {
			continue
		}
		if from, to := Cut(bound[1:]); to == t {
			return Of(api.Call, Var(int64(i)), g.Part(from, env, deep-1))
		}
	}
	return nil
}

// own makes a term of a type by what makes such things.
func (g *Maker) own(t string, env []string, deep int) []api.Node {
	kid := func(t string) []api.Node { return g.Part(t, env, deep-1) }
	switch t[0] {
	case 'i':
		switch g.Below(4) {
		case 0:
			return Of(api.Size, kid("t"))
		case 1:
			return Of(api.Neg, kid("i"))
		}
		return Of([]int8{api.Add, api.Sub, api.Mul}[g.Below(3)], kid("i"), kid("i"))
	case 'b':
		if g.Below(3) == 0 {
			return Of(api.Empty, kid("l"+g.Typ(3)))
		}
		return Of([]int8{api.Eq, api.Less}[g.Below(2)], kid("i"), kid("i"))
	case 't':
		return Of(api.Join, kid("t"), kid("t"))
	case '>':
		return g.function(t, env, deep)
	case ',':
		first, rest := Cut(t[1:])
		return Of(api.Pair, kid(first), kid(rest))
	case 'l':
		switch g.Below(4) {
		case 0:
			return Of(api.Tail, kid(t))
		case 1:
			return Of(api.Cons, kid(t[1:]), kid(t))
		}
		var kids [][]api.Node
		for range 1 + g.Below(3) {
			kids = append(kids, kid(t[1:]))
		}
		return List(t[1:], kids...)
	case 'x':
		return Of(api.Box, kid(t[1:]))
	}
	return g.plain(t, env)
}

// Deal makes a closed term of some type.
func (g *Maker) Deal() []api.Node {
	g.labels = 0
	t := g.Typ(6)
	if g.Coin() {
		t = g.One("i", "i", "b", "t", ",it", "li")
	}
	return g.Part(t, nil, 2+g.Below(6))
}

// Spoilt answers a list with one node changed. The list stays whole.
func (g *Maker) Spoilt(l []api.Node) []api.Node {
	l = slices.Clone(l)
	n := &l[g.Below(len(l))]
	other := func(kinds ...int8) int8 { return kinds[g.Below(len(kinds))] }
	switch n.Kind {
	case api.Num, api.Str, api.Truth, api.Var:
		*n = []api.Node{{Kind: api.Num}, {Kind: api.Str, S: "q"}, {Kind: api.Truth, N: int64(g.Below(4) - 1)}, {Kind: api.Var, N: int64(g.Below(5) - 1)}, {Kind: api.Var, N: n.N + 1}, {Kind: api.List}}[g.Below(6)]
	case api.Fn, api.Rec:
		n.Kind = api.Fn + api.Rec - n.Kind
	case api.List:
		n.T = g.One("z", "?", "i")
	case api.Cast:
		switch g.Below(3) {
		case 0:
			n.T = g.One("", "z", "?", g.Typ(3))
		case 1:
			n.U = g.One("", "z", "?", g.Typ(3))
		case 2:
			n.N = []int64{0, -1, 1 << 31, 1<<31 - 1, math.MinInt64}[g.Below(5)]
		}
	case api.Call, api.Let, api.Add, api.Sub, api.Mul, api.Join, api.Eq, api.Less, api.Pair, api.Cons, api.Set:
		n.Kind = other(api.Call, api.Let, api.Add, api.Join, api.Eq, api.Pair, api.Cons, api.Set)
	case api.Neg, api.Size, api.First, api.Second, api.Head, api.Tail, api.Empty, api.Box, api.Get:
		n.Kind = other(api.Neg, api.Size, api.First, api.Second, api.Head, api.Tail, api.Empty, api.Box, api.Get)
	}
	return l
}

// Noisy answers a list with something in every field that the table of chapter 10 does not name.
func (g *Maker) Noisy(l []api.Node) []api.Node {
	l = slices.Clone(l)
	for i := range l {
		n, named := &l[i], namedFields(l[i].Kind)
		n.At = api.Place{Line: g.Below(99) - 50, Col: math.MinInt}
		if !strings.Contains(named, "N") {
			n.N = []int64{-1, 1, 2, math.MaxInt64, math.MinInt64}[g.Below(5)]
		}
		for letter, field := range []*string{&n.S, &n.T, &n.U} {
			if !strings.Contains(named, "STU"[letter:letter+1]) {
				*field = g.One("", "x", "i", "?", "z", ">ii", "b", strings.Repeat("l", 65))
			}
		}
	}
	return l
}
