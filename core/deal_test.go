package core_test

import (
	"math"
	"slices"
	"strings"
	"testing"

	"culprit/api"
	"culprit/relate"
)

// dice deals numbers by a rule, so that each run of a test deals the same ones.
type dice uint64

func (d *dice) below(n int) int {
	*d = *d*6364136223846793005 + 1442695040888963407
	return int(uint64(*d) >> 33 % uint64(n))
}

func (d *dice) coin() bool { return d.below(2) == 0 }

func (d *dice) one(texts ...string) string { return texts[d.below(len(texts))] }

// maker makes terms of types that are asked for; static ones have no ? at all, and no cast.
type maker struct {
	dice
	static bool
}

func (g *maker) typ(room int) string {
	if room < 2 || g.below(3) == 0 {
		if g.static {
			return g.one("i", "b", "t")
		}
		return g.one("i", "b", "t", "?", "?")
	}
	switch head := g.one(">", ",", "l", "x"); head {
	case ">", ",":
		return head + g.typ(room/2) + g.typ(room/2)
	default:
		return head + g.typ(room-1)
	}
}

// large answers a type that has nearly as many letters as may be.
func (g *maker) large() string {
	t := g.typ(9)
	for most := 52 + g.below(12); len(t) < most; {
		t = g.one("l", "x", ">i", ",t") + t
	}
	return t
}

// near answers a type that is consistent with t.
func (g *maker) near(t string) string {
	looser := t
	for g.coin() {
		if all := relate.Looser(looser); len(all) > 0 {
			looser = g.one(all...)
		}
	}
	all := ""
	for _, letter := range strings.Split(looser, "") {
		if letter == "?" && g.below(3) == 0 {
			letter = g.typ(3)
		}
		all += letter
	}
	if len(all) > 64 || !consistent(all, t) {
		return looser
	}
	return all
}

func (g *maker) label() int64 {
	return []int64{1, 2, 3, math.MaxInt32, int64(1 + g.below(99))}[g.below(5)]
}

// plain makes a term of a type without going deeper than its letters do.
func (g *maker) plain(t string, env []string) []api.Node {
	var fitting []int64
	for i, bound := range env {
		if bound == t {
			fitting = append(fitting, int64(i))
		}
	}
	if len(fitting) > 0 && g.below(4) > 0 {
		return name(fitting[g.below(len(fitting))])
	}
	return witness(t)
}

func (g *maker) function(t string, env []string, deep int) []api.Node {
	from, to := cut(t[1:])
	if g.coin() {
		return node(api.Node{Kind: api.Fn, T: from, U: to}, g.part(to, append([]string{from}, env...), deep-1))
	}
	return node(api.Node{Kind: api.Rec, T: from, U: to}, g.part(to, append([]string{from, t}, env...), deep-1))
}

// part makes a term of just this type, below binders of those types, the nearest one first.
func (g *maker) part(t string, env []string, deep int) []api.Node {
	if deep <= 0 || slices.Contains(env, t) && g.below(3) == 0 {
		return g.plain(t, env)
	}
	kid := func(t string) []api.Node { return g.part(t, env, deep-1) }
	if !g.static && g.below(6) == 0 {
		from := g.near(t)
		return cast(from, t, g.label(), kid(from))
	}
	room := len(t) < 60
	switch g.below(18) {
	case 0:
		return g.plain(t, env)
	case 1, 9, 10:
		bound := g.one(g.typ(4), t)
		return of(api.Let, kid(bound), g.part(t, append([]string{bound}, env...), deep-1))
	case 2:
		return of(api.If, kid("b"), kid(t), kid(t))
	case 3:
		if from := g.typ(3); room {
			return of(api.Call, kid(">"+from+t), kid(from))
		}
	case 4:
		if room {
			return of(api.First, kid(","+t+g.typ(2)))
		}
	case 5:
		if room {
			return of(api.Second, kid(","+g.typ(2)+t))
		}
	case 6:
		if room {
			return of(api.Head, kid("l"+t))
		}
	case 7:
		if room {
			return of(api.Get, kid("x"+t))
		}
	case 8:
		if room {
			return of(api.Set, kid("x"+t), kid(t))
		}
	}
	return g.own(t, env, deep)
}

// own makes a term of a type by what makes such things.
func (g *maker) own(t string, env []string, deep int) []api.Node {
	kid := func(t string) []api.Node { return g.part(t, env, deep-1) }
	switch t[0] {
	case 'i':
		switch g.below(4) {
		case 0:
			return of(api.Size, kid("t"))
		case 1:
			return of(api.Neg, kid("i"))
		}
		return of([]int8{api.Add, api.Sub, api.Mul}[g.below(3)], kid("i"), kid("i"))
	case 'b':
		if g.coin() {
			return of(api.Empty, kid("l"+g.typ(3)))
		}
		return of([]int8{api.Eq, api.Less}[g.below(2)], kid("i"), kid("i"))
	case 't':
		return of(api.Join, kid("t"), kid("t"))
	case '>':
		return g.function(t, env, deep)
	case ',':
		first, rest := cut(t[1:])
		return of(api.Pair, kid(first), kid(rest))
	case 'l':
		switch g.below(4) {
		case 0:
			return of(api.Tail, kid(t))
		case 1:
			return of(api.Cons, kid(t[1:]), kid(t))
		}
		var kids [][]api.Node
		for range g.below(4) {
			kids = append(kids, kid(t[1:]))
		}
		return node(api.Node{Kind: api.List, T: t[1:]}, kids...)
	case 'x':
		return of(api.Box, kid(t[1:]))
	}
	return g.plain(t, env)
}

// dealt makes a closed term of some type.
func (g *maker) dealt() ([]api.Node, string) {
	t := g.typ(6)
	switch g.below(8) {
	case 0:
		t = g.large()
	case 1, 2:
		t = g.one("i", "b", "t")
	}
	return g.part(t, nil, 1+g.below(7)), t
}

// wrong answers a text that is no type, or a type.
func (g *maker) wrong() string {
	return g.one("", "z", "ii", ">i", long(65), "int", g.typ(3), g.large(), "i", "?")
}

// spoilt changes one node. Whole ones stay whole, but where the kids are changed.
func (g *maker) spoilt(l []api.Node) []api.Node {
	l = slices.Clone(l)
	n := &l[g.below(len(l))]
	if g.below(20) == 0 {
		n.Kids += 1 - 2*g.below(2)
		return l
	}
	if g.below(40) == 0 {
		n.Kind = []int8{0, api.As, 31, -1, 127}[g.below(5)]
		return l
	}
	switch n.Kind {
	case api.Num, api.Str, api.Truth, api.Var:
		*n = []api.Node{{Kind: api.Num}, {Kind: api.Str, S: long(64 + g.below(2))}, {Kind: api.Truth, N: int64(g.below(4) - 1)}, {Kind: api.Var, N: int64(g.below(4) - 1)}, {Kind: api.Var, N: n.N + 1}}[g.below(5)]
	case api.Fn, api.Rec:
		switch g.below(3) {
		case 0:
			n.Kind = api.Fn + api.Rec - n.Kind
		case 1:
			n.T = g.wrong()
		case 2:
			n.U = g.wrong()
		}
	case api.List:
		n.T = g.wrong()
	case api.Cast:
		switch g.below(3) {
		case 0:
			n.T = g.wrong()
		case 1:
			n.U = g.wrong()
		case 2:
			n.N = []int64{0, -1, 1 << 31, math.MaxInt64, math.MinInt64}[g.below(5)]
		}
	case api.Call, api.Let, api.Add, api.Sub, api.Mul, api.Join, api.Eq, api.Less, api.Pair, api.Cons, api.Set:
		n.Kind = []int8{api.Call, api.Let, api.Add, api.Join, api.Eq, api.Pair, api.Cons, api.Set}[g.below(8)]
	case api.Neg, api.Size, api.First, api.Second, api.Head, api.Tail, api.Empty, api.Box, api.Get:
		n.Kind = []int8{api.Neg, api.Size, api.First, api.Second, api.Head, api.Tail, api.Empty, api.Box, api.Get}[g.below(9)]
	}
	return l
}

// noisy lays something into every field that the chapter's table does not name.
func (g *maker) noisy(l []api.Node) []api.Node {
	l = slices.Clone(l)
	for i := range l {
		n, named := &l[i], namedFields(l[i].Kind)
		n.At = api.Place{Line: g.below(99) - 50, Col: math.MinInt}
		if !strings.Contains(named, "N") {
			n.N = []int64{-1, 1, 2, math.MaxInt64, math.MinInt64}[g.below(5)]
		}
		if !strings.Contains(named, "S") {
			n.S = g.one("x", "f x", long(65), "\xff")
		}
		if !strings.Contains(named, "T") {
			n.T = g.wrong()
		}
		if !strings.Contains(named, "U") {
			n.U = g.wrong()
		}
		if n.Kind == api.Num {
			n.N = []int64{-1, math.MinInt64, math.MaxInt64}[g.below(3)]
		}
	}
	return l
}

func TestDealtTerms(t *testing.T) {
	g := maker{dice: 10}
	m := newModel()
	counts, kinds, longest := map[api.Errno]int{}, map[int8]int{}, 0
	for range 6000 {
		l, asked := g.dealt()
		v := wantAsModel(t, m, l)
		if v.t != asked || v.e != api.OK {
			t.Fatalf("the tests' own maker made %+v, not a %s: %s", v, asked, told(l))
		}
		counts[v.e]++
		longest = max(longest, len(l))
		for _, n := range l {
			kinds[n.Kind]++
		}
		if got := given(g.noisy(l)); got != v {
			t.Fatalf("P10.1: fields that are not named count: %+v, not %+v of %s", got, v, told(l))
		}
		for range 3 {
			l = g.spoilt(l)
			v := wantAsModel(t, m, l)
			counts[v.e]++
			if got := given(g.noisy(l)); got != v {
				t.Fatalf("P10.1: fields that are not named count: %+v, not %+v of %s", got, v, told(l))
			}
		}
	}
	t.Logf("%v %v, %d nodes", counts, kinds, longest)
	for _, e := range []api.Errno{api.OK, api.ErrLong, api.ErrNumber, api.ErrTree, api.ErrShape, api.ErrLarge, api.ErrUnbound, api.ErrType} {
		if counts[e] < 50 {
			t.Errorf("too few kinds of terms were dealt: %v", counts)
		}
	}
	for _, name := range kindNames() {
		if kinds[kindOf(name)] < 200 && name != "As" {
			t.Errorf("too few kinds of nodes were dealt: %v", kinds)
		}
	}
}

// By hand: of each kind every field that is not named, one by one.
func TestFieldsThatAreNotNamed(t *testing.T) {
	for _, written := range []string{
		"Num 1", "Str a", "Truth 1", "Fn i i (Var 0)", "Rec i t (Call(Var 1, Var 0))", "Call(Fn i i (Var 0), Num 1)", "Let(Num 1, Var 0)", "If(Truth 0, Num 1, Num 2)",
		"Add(Num 1, Num 2)", "Sub(Num 1, Num 2)", "Mul(Num 1, Num 2)", "Join(Str a, Str b)", "Eq(Num 1, Num 2)", "Less(Num 1, Num 2)", "Neg(Num 1)", "Size(Str a)",
		"Pair(Num 1, Str a)", "First(Pair(Num 1, Str a))", "Second(Pair(Num 1, Str a))", "List i (Num 1)", "Head(List i ())", "Tail(List i ())", "Empty(List i ())",
		"Cons(Num 1, List i ())", "Box(Num 1)", "Get(Box(Num 1))", "Set(Box(Num 1), Num 2)", "Cast i ? 1 (Num 1)",
	} {
		l := term(written)
		want := given(l)
		if want.e != api.OK {
			t.Fatalf("the tests' own term %s is refused: %+v", written, want)
		}
		for i, n := range l {
			change := func(field string, set func(n *api.Node)) {
				if field != "" && strings.Contains(namedFields(n.Kind), field) {
					return
				}
				changed := slices.Clone(l)
				set(&changed[i])
				wantVerdict(t, changed, want)
			}
			for _, s := range []string{"z", ">i", "t", "?", long(65)} {
				change("S", func(n *api.Node) { n.S = s })
				change("T", func(n *api.Node) { n.T = s })
				change("U", func(n *api.Node) { n.U = s })
			}
			for _, n := range []int64{-1, 2, math.MaxInt64, math.MinInt64} {
				change("N", func(changed *api.Node) { changed.N = n })
			}
			change("", func(n *api.Node) { n.At = api.Place{Line: -1, Col: math.MaxInt} })
		}
	}
}
