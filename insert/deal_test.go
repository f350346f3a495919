package insert_test

import (
	"slices"
	"strings"
	"testing"

	"culprit/api"
	"culprit/check"
	"culprit/relate"
)

// dice deals numbers by a rule, so that each run of a test deals the same ones.
type dice uint64

func (d *dice) below(n int) int {
	*d = *d*6364136223846793005 + 1442695040888963407
	return int(uint64(*d) >> 33 % uint64(n))
}

func (d *dice) coin() bool { return d.below(2) == 0 }

func (d *dice) one(texts ...string) string { return texts[d.below(len(texts))] }

// maker makes trees of types that are asked for; static ones have no ? at all, closed ones no environment.
type maker struct {
	dice
	static, closed bool
}

func (g *maker) typ(room int) string {
	if room < 2 || g.below(3) == 0 {
		if g.static {
			return g.one("i", "b", "t")
		}
		return g.one("i", "b", "t", "?", "?")
	}
	switch head := g.one(">", ",", "l", "x"); head {
	case ">", ",":
		return head + g.typ(room/2) + g.typ(room/2)
	default:
		return head + g.typ(room-1)
	}
}

// looser knows less than t, or the same.
func (g *maker) looser(t string) string {
	for !g.static && g.coin() {
		if all := relate.Looser(t); len(all) > 0 {
			t = g.one(all...)
		}
	}
	return t
}

// near answers a type that is consistent with t.
func (g *maker) near(t string) string {
	all := ""
	for _, letter := range strings.Split(g.looser(t), "") {
		if letter == "?" && g.below(3) == 0 {
			letter = g.typ(3)
		}
		all += letter
	}
	if g.static || len(all) > 60 || !consistent(all, t) { // what was made looser may have become something else
		return t
	}
	return all
}

func (g *maker) name() string { return g.one("x", "y", "z", "f", "g") }

// annotated: where nothing is known nothing need be written.
func (g *maker) annotated(t string) string {
	if t == "?" && g.coin() {
		return ""
	}
	return t
}

func with(env []bound, more ...bound) []bound { return slices.Concat(env, more) }

// plain makes a tree of a type without going deeper than its letters do.
func (g *maker) plain(t string, env []bound) []api.Node {
	var fitting []string
	for i, b := range env {
		shadowed := slices.ContainsFunc(env[i+1:], func(later bound) bool { return later.name == b.name })
		if b.t == t && !shadowed {
			fitting = append(fitting, b.name)
		}
	}
	if len(fitting) > 0 && g.below(4) > 0 {
		return []api.Node{name(g.one(fitting...))}
	}
	var first, second string
	if len(t) > 1 {
		first, second = cut(t[1:])
	}
	switch t[0] {
	case 'i':
		return []api.Node{num(int64(g.below(9)))}
	case 'b':
		return []api.Node{{Kind: api.Truth, N: int64(g.below(2))}}
	case 't':
		return []api.Node{{Kind: api.Str, S: g.one("", "a", "x")}}
	case '?':
		return tree(api.Node{Kind: api.As, T: "?"}, g.plain(g.typ(2), env))
	case '>':
		return g.function(first, second, env, 0)
	case ',':
		return of(api.Pair, g.plain(first, env), g.plain(second, env))
	case 'l':
		if first == "?" {
			return []api.Node{{Kind: api.List}}
		}
		return of(api.List, g.plain(first, env))
	}
	return of(api.Box, g.plain(first, env))
}

func (g *maker) function(from, to string, env []bound, deep int) []api.Node {
	n := api.Node{Kind: api.Fn, S: g.name(), T: g.annotated(from), U: g.annotated(to)}
	inner := with(env, bound{n.S, from})
	if g.coin() {
		own := g.name()
		inner = with(env, bound{own, ">" + from + to}, bound{n.S, from})
		n.Kind, n.S = api.Rec, own+" "+n.S
	}
	body := to
	if deep > 0 {
		body = g.near(to)
	}
	return tree(n, g.part(body, inner, deep-1))
}

// part makes a tree of just this type, if it does not get too large.
func (g *maker) part(t string, env []bound, deep int) []api.Node {
	if deep <= 0 || len(t) > 50 {
		return g.plain(t, env)
	}
	kid := func(t string) []api.Node { return g.part(t, env, deep-1) }
	thing := func(whole string) []api.Node { // what is taken apart may be of ?, if it gives a ?
		if t == "?" && g.coin() {
			return kid("?")
		}
		return kid(whole)
	}
	switch g.below(20) {
	case 0:
		return g.plain(t, env)
	case 1:
		s, x := g.typ(4), g.name()
		return tree(api.Node{Kind: api.Let, S: x, T: g.annotated(s)}, kid(g.near(s)), g.part(t, with(env, bound{x, s}), deep-1))
	case 2:
		two := []string{t, g.looser(t)}
		turn := g.below(2)
		return of(api.If, kid(g.near("b")), kid(two[turn]), kid(two[1-turn]))
	case 3:
		a := g.typ(3)
		if t == "?" && g.coin() {
			return of(api.Call, kid("?"), kid(a))
		}
		return of(api.Call, kid(">"+a+t), kid(g.near(a)))
	case 4:
		return of(api.First, thing(","+t+g.typ(2)))
	case 5:
		return of(api.Second, thing(","+g.typ(2)+t))
	case 6:
		return of(api.Head, thing("l"+t))
	case 7:
		return of(api.Get, thing("x"+t))
	case 8:
		return of(api.Set, thing("x"+t), kid(g.near(t)))
	case 9:
		return tree(api.Node{Kind: api.As, T: t}, kid(g.near(t)))
	}
	return g.own(t, env, deep)
}

// own makes a tree of a type by what makes such things.
func (g *maker) own(t string, env []bound, deep int) []api.Node {
	kid := func(t string) []api.Node { return g.part(t, env, deep-1) }
	i, s := g.near("i"), g.near("t")
	switch t[0] {
	case 'i':
		if g.below(3) == 0 {
			return of(api.Size, kid(s))
		}
		if g.below(4) == 0 {
			return of(api.Neg, kid(i))
		}
		return of([]int8{api.Add, api.Sub, api.Mul}[g.below(3)], kid(i), kid(g.near("i")))
	case 'b':
		if g.coin() {
			return of(api.Empty, kid(g.looser("l"+g.typ(3))))
		}
		return of([]int8{api.Eq, api.Less}[g.below(2)], kid(i), kid(g.near("i")))
	case 't':
		return of(api.Join, kid(s), kid(g.near("t")))
	case '>':
		first, rest := cut(t[1:])
		return g.function(first, rest, env, deep)
	case ',':
		first, rest := cut(t[1:])
		return of(api.Pair, kid(first), kid(rest))
	case 'l':
		return g.list(t, env, deep)
	case 'x':
		return of(api.Box, kid(t[1:]))
	}
	return tree(api.Node{Kind: api.As, T: "?"}, kid(g.typ(4)))
}

func (g *maker) list(t string, env []bound, deep int) []api.Node {
	kid := func(t string) []api.Node { return g.part(t, env, deep-1) }
	whole := t
	if t == "l?" && !g.static {
		whole = g.one(t, "?")
	}
	switch first := t[1:]; g.below(4) {
	case 0:
		return of(api.Tail, kid(whole))
	case 1:
		return of(api.Cons, kid(g.near(first)), kid(whole))
	default:
		elements := []string{first, g.looser(first), g.looser(first)}[:1+g.below(3)]
		if g.coin() {
			slices.Reverse(elements)
		}
		var kids [][]api.Node
		for _, element := range elements {
			kids = append(kids, kid(element))
		}
		return of(api.List, kids...)
	}
}

// dealt makes a tree that checks, its environment, and the type that it was made for.
func (g *maker) dealt() ([]api.Node, []bound, string) {
	for {
		var env []bound
		for range g.below(5) {
			env = append(env, bound{g.name(), g.typ(5)})
		}
		if g.closed {
			env = nil
		}
		t := g.typ(6)
		if g.coin() {
			t = g.one("i", "b", "t")
		}
		l := g.part(t, env, 1+g.below(6))
		names, types := apart(env)
		if _, e, _ := check.Expr(l, names, types); e == api.OK && len(l) < 600 {
			return placed(l), env, t
		}
	}
}

// spoilt changes one node, so that the list may still be.
func (g *maker) spoilt(l []api.Node) []api.Node {
	l = slices.Clone(l)
	at := g.below(len(l))
	n := &l[at]
	switch n.Kind {
	case api.Num, api.Str, api.Truth, api.Var:
		*n = []api.Node{num(1), {Kind: api.Str}, {Kind: api.Truth}, name(g.name()), name("unbound")}[g.below(5)]
	case api.Fn, api.Rec, api.Let, api.As:
		n.T = g.typ(4)
		if n.Kind == api.Fn || n.Kind == api.Rec {
			n.U = g.typ(4)
		}
	case api.Call, api.Add, api.Sub, api.Mul, api.Join, api.Eq, api.Less, api.Pair, api.Cons, api.Set:
		n.Kind = []int8{api.Call, api.Add, api.Join, api.Eq, api.Pair, api.Cons, api.Set}[g.below(7)]
	case api.Neg, api.Size, api.First, api.Second, api.Head, api.Tail, api.Empty, api.Box, api.Get:
		n.Kind = []int8{api.Neg, api.Size, api.First, api.Second, api.Head, api.Tail, api.Empty, api.Box, api.Get}[g.below(9)]
	}
	return placed(l)
}

func TestDealtTrees(t *testing.T) {
	g := maker{dice: 11}
	m := newModel()
	rules, kinds, refused := map[int]int{}, map[int8]int{}, map[api.Errno]int{}
	for i := range 5000 {
		g.closed = i%3 == 0
		l, env, asked := g.dealt()
		a := wantAsModel(t, m, l, env)
		if a.t != asked {
			t.Fatalf("P11.1: the type of %s in %v is %s, not %s", shown(told(l)), env, a.t, asked)
		}
		wantSound(t, "m", l, env, a)
		for _, s := range a.sites {
			rules[s.Rule]++
		}
		for _, n := range l {
			kinds[n.Kind]++
		}
		for range 3 {
			l = g.spoilt(l)
			a := wantAsModel(t, m, l, env)
			refused[a.e]++
			if a.e == api.OK {
				wantSound(t, "m", l, env, a)
			}
		}
	}
	t.Logf("rules %v, kinds %v, refused %v", rules, kinds, refused)
	for rule := range 16 {
		if rules[rule+1] < 50 {
			t.Errorf("too few casts of the rule %d were dealt: %v", rule+1, rules)
		}
	}
	for kind := range int8(29) {
		if kinds[kind+1] < 100 {
			t.Errorf("too few nodes of the kind %d were dealt: %v", kind+1, kinds)
		}
	}
	for _, e := range []api.Errno{api.OK, api.ErrUnbound, api.ErrType, api.ErrHead, api.ErrBranch} {
		if refused[e] < 50 {
			t.Errorf("too few kinds of trees were dealt: %v", refused)
		}
	}
}
