package eval_test

import (
	"math"
	"slices"
	"strings"

	"culprit/api"
	"culprit/relate"
)

// dice deals numbers by a rule, so that each run of a test deals the same ones.
type dice uint64

func (d *dice) below(n int) int {
	*d = *d*6364136223846793005 + 1442695040888963407
	return int(uint64(*d) >> 33 % uint64(n))
}

func (d *dice) coin() bool { return d.below(2) == 0 }

func (d *dice) one(texts ...string) string { return texts[d.below(len(texts))] }

// maker makes terms of types that are asked for. Static ones have no ? at all, but may have casts, from a type to itself.
type maker struct {
	dice
	static bool
	labels int64 // how many were laid
}

func (g *maker) typ(room int) string {
	if room < 2 || g.below(3) == 0 {
		if g.static {
			return g.one("i", "b", "t")
		}
		return g.one("i", "b", "t", "?", "?")
	}
	switch head := g.one(">", ",", "l", "x"); head {
	case ">", ",":
		return head + g.typ(room/2) + g.typ(room/2)
	default:
		return head + g.typ(room-1)
	}
}

// near answers a type that is consistent with t.
func (g *maker) near(t string) string {
	if g.static {
		return t
	}
	looser := t
	for g.below(3) > 0 {
		if all := relate.Looser(looser); len(all) > 0 {
			looser = g.one(all...)
		}
	}
	all := ""
	for _, letter := range strings.Split(looser, "") {
		if letter == "?" && g.coin() {
			letter = g.typ(4)
		}
		all += letter
	}
	if len(all) > 64 || !relate.Consistent(all, t) {
		return looser
	}
	return all
}

// label answers a new one, or one that stands already.
func (g *maker) label() int64 {
	if g.labels > 0 && g.below(8) == 0 {
		return int64(1 + g.below(int(g.labels)))
	}
	g.labels++
	return g.labels
}

// plain makes a term of a type without going deeper than its letters do.
func (g *maker) plain(t string, env []string) []api.Node {
	var fitting []int64
	for i, bound := range env {
		if bound == t {
			fitting = append(fitting, int64(i))
		}
	}
	if len(fitting) > 0 && g.below(4) > 0 {
		return name(fitting[g.below(len(fitting))])
	}
	switch t {
	case "i":
		return num([]int64{0, 1, 2, 3, -1, math.MaxInt64, math.MinInt64}[g.below(7)])
	case "b":
		return truth(int64(g.below(2)))
	case "t":
		return str(g.one("", "a", "bc"))
	case "?":
		from := g.one("i", "b", "t", "l?", ">??", "x?")
		return cast(from, "?", g.label(), witness(from))
	}
	return witness(t)
}

func (g *maker) function(t string, env []string, deep int) []api.Node {
	from, to := cut(t[1:])
	if g.below(3) > 0 {
		return fn(from, to, g.part(to, append([]string{from}, env...), deep-1))
	}
	return rec(from, to, g.part(to, append([]string{from, t}, env...), deep-1))
}

// part makes a term of just this type, below binders of those types, the nearest one first.
func (g *maker) part(t string, env []string, deep int) []api.Node {
	if deep <= 0 || slices.Contains(env, t) && g.below(3) == 0 {
		return g.plain(t, env)
	}
	kid := func(t string) []api.Node { return g.part(t, env, deep-1) }
	if g.below(4) == 0 {
		from := g.near(t)
		return cast(from, t, g.label(), kid(from))
	}
	if g.below(3) == 0 {
		if l := g.call(t, env, deep); l != nil {
			return l
		}
	}
	room := len(t) < 50
	switch g.below(20) {
	case 0:
		return g.plain(t, env)
	case 1, 9, 10:
		bound := g.one(g.typ(4), t)
		return of(api.Let, kid(bound), g.part(t, append([]string{bound}, env...), deep-1))
	case 2:
		return of(api.If, kid("b"), kid(t), kid(t))
	case 3, 11, 12:
		if from := g.typ(4); room {
			return of(api.Call, kid(">"+from+t), kid(from))
		}
	case 4:
		if room {
			return of(api.First, kid(","+t+g.typ(2)))
		}
	case 5:
		if room {
			return of(api.Second, kid(","+g.typ(2)+t))
		}
	case 6:
		if room {
			return of(api.Head, kid("l"+t))
		}
	case 7:
		if room {
			return of(api.Get, kid("x"+t))
		}
	case 8:
		if room {
			return of(api.Set, kid("x"+t), kid(t))
		}
	}
	return g.own(t, env, deep)
}

// call makes a call of a function that a binder has, if one of them gives that type.
func (g *maker) call(t string, env []string, deep int) []api.Node {
	for i, bound := range env {
		if bound[0] != '>' {
			continue
		}
		if from, to := cut(bound[1:]); to == t {
			return of(api.Call, name(int64(i)), g.part(from, env, deep-1))
		}
	}
	return nil
}

// own makes a term of a type by what makes such things.
func (g *maker) own(t string, env []string, deep int) []api.Node {
	kid := func(t string) []api.Node { return g.part(t, env, deep-1) }
	switch t[0] {
	case 'i':
		switch g.below(4) {
		case 0:
			return of(api.Size, kid("t"))
		case 1:
			return of(api.Neg, kid("i"))
		}
		return of([]int8{api.Add, api.Sub, api.Mul}[g.below(3)], kid("i"), kid("i"))
	case 'b':
		if g.below(3) == 0 {
			return of(api.Empty, kid("l"+g.typ(3)))
		}
		return of([]int8{api.Eq, api.Less}[g.below(2)], kid("i"), kid("i"))
	case 't':
		return of(api.Join, kid("t"), kid("t"))
	case '>':
		return g.function(t, env, deep)
	case ',':
		first, rest := cut(t[1:])
		return of(api.Pair, kid(first), kid(rest))
	case 'l':
		switch g.below(4) {
		case 0:
			return of(api.Tail, kid(t))
		case 1:
			return of(api.Cons, kid(t[1:]), kid(t))
		}
		var kids [][]api.Node
		for range 1 + g.below(3) {
			kids = append(kids, kid(t[1:]))
		}
		return list(t[1:], kids...)
	case 'x':
		return of(api.Box, kid(t[1:]))
	}
	return g.plain(t, env)
}

// dealt makes a closed term of some type.
func (g *maker) dealt() []api.Node {
	g.labels = 0
	t := g.typ(6)
	if g.coin() {
		t = g.one("i", "i", "b", "t", ",it", "li")
	}
	return g.part(t, nil, 2+g.below(6))
}

// spoilt changes one node. The list stays whole.
func (g *maker) spoilt(l []api.Node) []api.Node {
	l = slices.Clone(l)
	n := &l[g.below(len(l))]
	other := func(kinds ...int8) int8 { return kinds[g.below(len(kinds))] }
	switch n.Kind {
	case api.Num, api.Str, api.Truth, api.Var:
		*n = []api.Node{{Kind: api.Num}, {Kind: api.Str, S: "q"}, {Kind: api.Truth, N: int64(g.below(4) - 1)}, {Kind: api.Var, N: int64(g.below(5) - 1)}, {Kind: api.Var, N: n.N + 1}, {Kind: api.List}}[g.below(6)]
	case api.Fn, api.Rec:
		n.Kind = api.Fn + api.Rec - n.Kind
	case api.List:
		n.T = g.one("z", "?", "i")
	case api.Cast:
		switch g.below(3) {
		case 0:
			n.T = g.one("", "z", "?", g.typ(3))
		case 1:
			n.U = g.one("", "z", "?", g.typ(3))
		case 2:
			n.N = []int64{0, -1, 1 << 31, 1<<31 - 1, math.MinInt64}[g.below(5)]
		}
	case api.Call, api.Let, api.Add, api.Sub, api.Mul, api.Join, api.Eq, api.Less, api.Pair, api.Cons, api.Set:
		n.Kind = other(api.Call, api.Let, api.Add, api.Join, api.Eq, api.Pair, api.Cons, api.Set)
	case api.Neg, api.Size, api.First, api.Second, api.Head, api.Tail, api.Empty, api.Box, api.Get:
		n.Kind = other(api.Neg, api.Size, api.First, api.Second, api.Head, api.Tail, api.Empty, api.Box, api.Get)
	}
	return l
}

// noisy lays something into every field that the table of chapter 10 does not name.
func (g *maker) noisy(l []api.Node) []api.Node {
	l = slices.Clone(l)
	for i := range l {
		n, named := &l[i], namedFields(l[i].Kind)
		n.At = api.Place{Line: g.below(99) - 50, Col: math.MinInt}
		if !strings.Contains(named, "N") {
			n.N = []int64{-1, 1, 2, math.MaxInt64, math.MinInt64}[g.below(5)]
		}
		for letter, field := range []*string{&n.S, &n.T, &n.U} {
			if !strings.Contains(named, "STU"[letter:letter+1]) {
				*field = g.one("", "x", "i", "?", "z", ">ii", "b", strings.Repeat("l", 65))
			}
		}
	}
	return l
}
