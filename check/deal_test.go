package check_test

import (
	"slices"
	"strings"
	"testing"

	"culprit/api"
	"culprit/relate"
	trees "culprit/tree"
)

// dice deals numbers by a rule, so that each run of a test deals the same ones.
type dice uint64

func (d *dice) below(n int) int {
	*d = *d*6364136223846793005 + 1442695040888963407
	return int(uint64(*d) >> 33 % uint64(n))
}

func (d *dice) coin() bool { return d.below(2) == 0 }

func (d *dice) one(texts ...string) string { return texts[d.below(len(texts))] }

// maker makes trees of types that are asked for; static ones have no ? at all.
type maker struct {
	dice
	static bool
}

func (g *maker) typ(room int) string {
	if room < 2 || g.below(3) == 0 {
		if g.static {
			return g.one("i", "b", "t")
		}
		return g.one("i", "b", "t", "?", "?")
	}
	switch head := g.one(">", ",", "l", "x"); head {
	case ">", ",":
		return head + g.typ(room/2) + g.typ(room/2)
	default:
		return head + g.typ(room-1)
	}
}

// large answers a type that has nearly as many letters as may be.
func (g *maker) large() string {
	t := g.typ(9)
	for most := 50 + g.below(14); len(t) < most; {
		t = g.one("l", "x", ">i", ",t") + t
	}
	return t
}

// looser knows less than t, or the same.
func (g *maker) looser(t string) string {
	for !g.static && g.coin() {
		if all := relate.Looser(t); len(all) > 0 {
			t = g.one(all...)
		}
	}
	return t
}

// near answers a type that is consistent with t.
func (g *maker) near(t string) string {
	all := ""
	for _, letter := range strings.Split(g.looser(t), "") {
		if letter == "?" && g.below(3) == 0 {
			letter = g.typ(3)
		}
		all += letter
	}
	if g.static || !consistent(all, t) { // what was made looser may have become something else
		return t
	}
	return all
}

func (g *maker) name() string { return g.one("x", "y", "z", "f", "g") }

// annotated: where nothing is known nothing need be written.
func (g *maker) annotated(t string) string {
	if t == "?" && g.coin() {
		return ""
	}
	return t
}

func with(env []bound, more ...bound) []bound { return slices.Concat(env, more) }

// plain makes a tree of a type without going deeper than its letters do.
func (g *maker) plain(t string, env []bound) []api.Node {
	var fitting []string
	for i, b := range env {
		shadowed := slices.ContainsFunc(env[i+1:], func(later bound) bool { return later.name == b.name })
		if b.t == t && !shadowed {
			fitting = append(fitting, b.name)
		}
	}
	if len(fitting) > 0 && g.below(4) > 0 {
		return one(g.one(fitting...))
	}
	var first, second string
	if len(t) > 1 {
		first, second = cut(t[1:])
	}
	switch t[0] {
	case 'i':
		return []api.Node{num(int64(g.below(9)))}
	case 'b':
		return []api.Node{{Kind: api.Truth, N: int64(g.below(2))}}
	case 't':
		return []api.Node{{Kind: api.Str, S: g.one("", "a", "x")}}
	case '?':
		return tree(api.Node{Kind: api.As, T: "?"}, g.plain(g.typ(2), env))
	case '>':
		return g.function(first, second, env, 0)
	case ',':
		return tree(api.Node{Kind: api.Pair}, g.plain(first, env), g.plain(second, env))
	case 'l':
		if first == "?" {
			return []api.Node{{Kind: api.List}}
		}
		return tree(api.Node{Kind: api.List}, g.plain(first, env))
	}
	return tree(api.Node{Kind: api.Box}, g.plain(first, env))
}

func (g *maker) function(from, to string, env []bound, deep int) []api.Node {
	n := api.Node{Kind: api.Fn, S: g.name(), T: g.annotated(from), U: g.annotated(to)}
	inner := with(env, bound{n.S, from})
	if g.coin() {
		own := g.name()
		inner = with(env, bound{own, ">" + from + to}, bound{n.S, from})
		n.Kind, n.S = api.Rec, own+" "+n.S
	}
	body := to
	if deep > 0 {
		body = g.near(to)
	}
	return tree(n, g.part(body, inner, deep-1))
}

// part makes a tree of just this type, if it does not get too large.
func (g *maker) part(t string, env []bound, deep int) []api.Node {
	if deep <= 0 || len(t) > 50 {
		return g.plain(t, env)
	}
	kid := func(t string) []api.Node { return g.part(t, env, deep-1) }
	thing := func(whole string) []api.Node { // what is taken apart may be of ?, if it gives a ?
		if t == "?" && g.coin() {
			return kid("?")
		}
		return kid(whole)
	}
	node := func(kind int8, kids ...[]api.Node) []api.Node { return tree(api.Node{Kind: kind}, kids...) }
	switch g.below(20) {
	case 0:
		return g.plain(t, env)
	case 1:
		s, x := g.typ(4), g.name()
		return tree(api.Node{Kind: api.Let, S: x, T: g.annotated(s)}, kid(g.near(s)), g.part(t, with(env, bound{x, s}), deep-1))
	case 2:
		two := []string{t, g.looser(t)}
		turn := g.below(2)
		return node(api.If, kid(g.near("b")), kid(two[turn]), kid(two[1-turn]))
	case 3:
		a := g.typ(3)
		if t == "?" && g.coin() {
			return node(api.Call, kid("?"), kid(a))
		}
		return node(api.Call, kid(">"+a+t), kid(g.near(a)))
	case 4:
		return node(api.First, thing(","+t+g.typ(2)))
	case 5:
		return node(api.Second, thing(","+g.typ(2)+t))
	case 6:
		return node(api.Head, thing("l"+t))
	case 7:
		return node(api.Get, thing("x"+t))
	case 8:
		return node(api.Set, thing("x"+t), kid(g.near(t)))
	case 9:
		return tree(api.Node{Kind: api.As, T: t}, kid(g.near(t)))
	}
	return g.own(t, env, deep)
}

// own makes a tree of a type by what makes such things.
func (g *maker) own(t string, env []bound, deep int) []api.Node {
	kid := func(t string) []api.Node { return g.part(t, env, deep-1) }
	node := func(kind int8, kids ...[]api.Node) []api.Node { return tree(api.Node{Kind: kind}, kids...) }
	i, s := g.near("i"), g.near("t")
	switch t[0] {
	case 'i':
		if g.below(3) == 0 {
			return node(api.Size, kid(s))
		}
		if g.below(4) == 0 {
			return node(api.Neg, kid(i))
		}
		return node([]int8{api.Add, api.Sub, api.Mul}[g.below(3)], kid(i), kid(g.near("i")))
	case 'b':
		if g.coin() {
			return node(api.Empty, kid("l"+g.typ(3)))
		}
		return node([]int8{api.Eq, api.Less}[g.below(2)], kid(i), kid(g.near("i")))
	case 't':
		return node(api.Join, kid(s), kid(g.near("t")))
	case '>':
		first, rest := cut(t[1:])
		return g.function(first, rest, env, deep)
	case ',':
		first, rest := cut(t[1:])
		return node(api.Pair, kid(first), kid(rest))
	case 'l':
		switch first := t[1:]; g.below(4) {
		case 0:
			return node(api.Tail, kid(t))
		case 1:
			return node(api.Cons, kid(g.near(first)), kid(t))
		default:
			elements := []string{first, g.looser(first), g.looser(first)}[:1+g.below(3)]
			if g.coin() {
				slices.Reverse(elements)
			}
			var kids [][]api.Node
			for _, element := range elements {
				kids = append(kids, kid(element))
			}
			return node(api.List, kids...)
		}
	case 'x':
		return node(api.Box, kid(t[1:]))
	}
	return tree(api.Node{Kind: api.As, T: "?"}, kid(g.typ(4)))
}

func (g *maker) env() []bound {
	var env []bound
	for range g.below(5) {
		env = append(env, bound{g.name(), g.typ(5)})
	}
	return env
}

// dealt makes a tree that may be, its environment, and the type that it was made for.
func (g *maker) dealt() ([]api.Node, []bound, string) {
	for {
		env, t := g.env(), g.typ(6)
		switch g.below(8) {
		case 0:
			t = g.large()
		case 1, 2, 3:
			t = g.one("i", "b", "t")
		}
		l := g.part(t, env, 1+g.below(6))
		if e, _ := trees.Check(l); e == api.OK && len(l) < 600 {
			return l, env, t
		}
	}
}

// spoilt changes one node, so that the list may still be.
func (g *maker) spoilt(l []api.Node) []api.Node {
	l = slices.Clone(l)
	n := &l[g.below(len(l))]
	switch n.Kind {
	case api.Num, api.Str, api.Truth, api.Var:
		*n = []api.Node{num(1), {Kind: api.Str}, {Kind: api.Truth}, name(g.name()), name("unbound")}[g.below(5)]
	case api.Fn, api.Rec, api.Let, api.As:
		n.T = g.typ(4)
		if g.below(4) == 0 {
			n.T = g.large()
		}
		if n.Kind == api.Fn || n.Kind == api.Rec {
			n.U = g.typ(4)
		}
	case api.Call, api.Add, api.Sub, api.Mul, api.Join, api.Eq, api.Less, api.Pair, api.Cons, api.Set:
		n.Kind = []int8{api.Call, api.Add, api.Join, api.Eq, api.Pair, api.Cons, api.Set}[g.below(7)]
	case api.Neg, api.Size, api.First, api.Second, api.Head, api.Tail, api.Empty, api.Box, api.Get:
		n.Kind = []int8{api.Neg, api.Size, api.First, api.Second, api.Head, api.Tail, api.Empty, api.Box, api.Get}[g.below(9)]
	}
	return l
}

func TestDealtTrees(t *testing.T) {
	g := maker{dice: 8}
	m := newModel(consistent)
	told, kinds, longest := map[api.Errno]int{}, map[int8]int{}, 0
	for range 6000 {
		l, env, asked := g.dealt()
		v := wantAsModel(t, m, l, env)
		told[v.e]++
		longest = max(longest, len(l))
		if v.e == api.OK {
			if v.types[0] != asked {
				t.Fatalf("the tests' own maker made a %s, not a %s: %s", v.types[0], asked, written(l))
			}
			for _, n := range l {
				kinds[n.Kind]++
			}
		}
		for range 3 {
			l = g.spoilt(l)
			told[wantAsModel(t, m, l, env).e]++
		}
	}
	t.Logf("%v %v, %d nodes", told, kinds, longest)
	for _, e := range []api.Errno{api.OK, api.ErrLarge, api.ErrUnbound, api.ErrType, api.ErrHead, api.ErrBranch} {
		if told[e] < 50 {
			t.Errorf("too few kinds of trees were dealt: %v", told)
		}
	}
	for kind := range int8(29) {
		if kinds[kind+1] < 200 {
			t.Errorf("too few kinds of nodes were dealt: %v", kinds)
		}
	}
}
