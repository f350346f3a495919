package module_test

import (
	"slices"
	"strings"
	"testing"

	"culprit/api"
	"culprit/relate"
)

// dice deals numbers by a rule, so that each run of a test deals the same ones.
type dice uint64

func (d *dice) below(n int) int {
	*d = *d*6364136223846793005 + 1442695040888963407
	return int(uint64(*d) >> 33 % uint64(n))
}

func (d *dice) coin() bool { return d.below(2) == 0 }

func (d *dice) one(texts ...string) string { return texts[d.below(len(texts))] }

// bound: a name with its type, of what a def sees.
type bound struct {
	name, t string
}

// part: a node, and the parts of its kids.
func part(n api.Node, parts ...[]api.Node) []api.Node {
	n.Kids = len(parts)
	return append([]api.Node{n}, slices.Concat(parts...)...)
}

func of(kind int8, parts ...[]api.Node) []api.Node { return part(api.Node{Kind: kind}, parts...) }

// maker makes trees of types that are asked for, and programs of these; static ones have no ? at all.
type maker struct {
	dice
	static bool
}

func (g *maker) typ(room int) string {
	if room < 2 || g.below(3) == 0 {
		if g.static {
			return g.one("i", "b", "t")
		}
		return g.one("i", "b", "t", "?", "?")
	}
	switch head := g.one(">", ",", "l", "x"); head {
	case ">", ",":
		return head + g.typ(room/2) + g.typ(room/2)
	default:
		return head + g.typ(room-1)
	}
}

// looser knows less than t, or the same.
func (g *maker) looser(t string) string {
	for !g.static && g.coin() {
		if all := relate.Looser(t); len(all) > 0 {
			t = g.one(all...)
		}
	}
	return t
}

// near answers a type that is consistent with t.
func (g *maker) near(t string) string {
	all := ""
	for _, letter := range strings.Split(g.looser(t), "") {
		if letter == "?" && g.below(3) == 0 {
			letter = g.typ(3)
		}
		all += letter
	}
	if g.static || len(all) > 60 || !consistent(all, t) { // what was made looser may have become something else
		return t
	}
	return all
}

func (g *maker) name() string { return g.one("x", "y", "z", "f", "g") }

// annotated: where nothing is known nothing need be written.
func (g *maker) annotated(t string) string {
	if t == "?" && g.coin() {
		return ""
	}
	return t
}

func with(env []bound, more ...bound) []bound { return slices.Concat(env, more) }

// plain makes a tree of a type without going deeper than its letters do.
func (g *maker) plain(t string, env []bound) []api.Node {
	var fitting []string
	for i, b := range env {
		shadowed := slices.ContainsFunc(env[i+1:], func(later bound) bool { return later.name == b.name })
		if b.t == t && !shadowed {
			fitting = append(fitting, b.name)
		}
	}
	if len(fitting) > 0 && g.below(4) > 0 {
		return []api.Node{name(g.one(fitting...))}
	}
	var first, second string
	if len(t) > 1 {
		first, second = cut(t[1:])
	}
	switch t[0] {
	case 'i':
		return []api.Node{num(int64(g.below(9)))}
	case 'b':
		return []api.Node{{Kind: api.Truth, N: int64(g.below(2))}}
	case 't':
		return []api.Node{{Kind: api.Str, S: g.one("", "a", "x")}}
	case '?':
		return part(api.Node{Kind: api.As, T: "?"}, g.plain(g.typ(2), env))
	case '>':
		return g.function(first, second, env, 0)
	case ',':
		return of(api.Pair, g.plain(first, env), g.plain(second, env))
	case 'l':
		if first == "?" {
			return []api.Node{{Kind: api.List}}
		}
		return of(api.List, g.plain(first, env))
	}
	return of(api.Box, g.plain(first, env))
}

func (g *maker) function(from, to string, env []bound, deep int) []api.Node {
	n := api.Node{Kind: api.Fn, S: g.name(), T: g.annotated(from), U: g.annotated(to)}
	inner := with(env, bound{n.S, from})
	if g.coin() {
		own := g.name()
		inner = with(env, bound{own, ">" + from + to}, bound{n.S, from})
		n.Kind, n.S = api.Rec, own+" "+n.S
	}
	body := to
	if deep > 0 {
		body = g.near(to)
	}
	return part(n, g.part(body, inner, deep-1))
}

// part makes a tree of just this type, if it does not get too large.
func (g *maker) part(t string, env []bound, deep int) []api.Node {
	if deep <= 0 || len(t) > 50 {
		return g.plain(t, env)
	}
	kid := func(t string) []api.Node { return g.part(t, env, deep-1) }
	thing := func(whole string) []api.Node { // what is taken apart may be of ?, if it gives a ?
		if t == "?" && g.coin() {
			return kid("?")
		}
		return kid(whole)
	}
	switch g.below(20) {
	case 0:
		return g.plain(t, env)
	case 1:
		s, x := g.typ(4), g.name()
		return part(api.Node{Kind: api.Let, S: x, T: g.annotated(s)}, kid(g.near(s)), g.part(t, with(env, bound{x, s}), deep-1))
	case 2:
		two := []string{t, g.looser(t)}
		turn := g.below(2)
		return of(api.If, kid(g.near("b")), kid(two[turn]), kid(two[1-turn]))
	case 3:
		a := g.typ(3)
		if t == "?" && g.coin() {
			return of(api.Call, kid("?"), kid(a))
		}
		return of(api.Call, kid(">"+a+t), kid(g.near(a)))
	case 4:
		return of(api.First, thing(","+t+g.typ(2)))
	case 5:
		return of(api.Second, thing(","+g.typ(2)+t))
	case 6:
		return of(api.Head, thing("l"+t))
	case 7:
		return of(api.Get, thing("x"+t))
	case 8:
		return of(api.Set, thing("x"+t), kid(g.near(t)))
	case 9:
		return part(api.Node{Kind: api.As, T: t}, kid(g.near(t)))
	}
	return g.own(t, env, deep)
}

// own makes a tree of a type by what makes such things.
func (g *maker) own(t string, env []bound, deep int) []api.Node {
	kid := func(t string) []api.Node { return g.part(t, env, deep-1) }
	i, s := g.near("i"), g.near("t")
	switch t[0] {
	case 'i':
		if g.below(3) == 0 {
			return of(api.Size, kid(s))
		}
		if g.below(4) == 0 {
			return of(api.Neg, kid(i))
		}
		return of([]int8{api.Add, api.Sub, api.Mul}[g.below(3)], kid(i), kid(g.near("i")))
	case 'b':
		if g.coin() {
			return of(api.Empty, kid(g.looser("l"+g.typ(3))))
		}
		return of([]int8{api.Eq, api.Less}[g.below(2)], kid(i), kid(g.near("i")))
	case 't':
		return of(api.Join, kid(s), kid(g.near("t")))
	case '>':
		first, rest := cut(t[1:])
		return g.function(first, rest, env, deep)
	case ',':
		first, rest := cut(t[1:])
		return of(api.Pair, kid(first), kid(rest))
	case 'l':
		return g.list(t, env, deep)
	case 'x':
		return of(api.Box, kid(t[1:]))
	}
	return part(api.Node{Kind: api.As, T: "?"}, kid(g.typ(4)))
}

func (g *maker) list(t string, env []bound, deep int) []api.Node {
	kid := func(t string) []api.Node { return g.part(t, env, deep-1) }
	whole := t
	if t == "l?" && !g.static {
		whole = g.one(t, "?")
	}
	switch first := t[1:]; g.below(4) {
	case 0:
		return of(api.Tail, kid(whole))
	case 1:
		return of(api.Cons, kid(g.near(first)), kid(whole))
	default:
		elements := []string{first, g.looser(first), g.looser(first)}[:1+g.below(3)]
		if g.coin() {
			slices.Reverse(elements)
		}
		var kids [][]api.Node
		for _, element := range elements {
			kids = append(kids, kid(element))
		}
		return of(api.List, kids...)
	}
}

// dealt makes a program that links: modules that import what is exported ahead of them.
func (g *maker) dealt(static func(module int) bool) []api.Module {
	for {
		l := placed(g.modules(static))
		if a := link(l); a.e == api.OK {
			return l
		}
	}
}

// modules makes some; those that are asked to be static have no ? in them.
func (g *maker) modules(static func(module int) bool) []api.Module {
	names := []string{"a", "b", "x", "main", "lib", "z"}
	var l []api.Module
	var exports []thing
	for i := range 1 + g.below(5) {
		g.static = static(i)
		m, seen := api.Module{Name: names[i]}, []bound(nil)
		for range g.below(4) {
			if x, ok := g.border(exports, seen); ok {
				m.Imports, seen = append(m.Imports, x), append(seen, bound{x.Name, written(x.T)})
			}
		}
		for range 1 + g.below(4) {
			if d, ok := g.def(seen); ok {
				m.Defs, seen = append(m.Defs, d), append(seen, bound{d.Name, written(d.T)})
			}
		}
		for _, d := range m.Defs {
			if d.Export {
				exports = append(exports, thing{module: m.Name, name: d.Name, t: written(d.T)})
			}
		}
		l = append(l, m)
	}
	g.static = false
	return l
}

func sees(seen []bound, named string) bool {
	return slices.ContainsFunc(seen, func(b bound) bool { return b.name == named })
}

// filled puts static types where a type has a ?.
func (g *maker) filled(t string) string {
	all := ""
	for _, letter := range strings.Split(t, "") {
		if letter == "?" {
			letter = g.typ(2)
		}
		all += letter
	}
	return all
}

// border makes an import of one of the exports.
func (g *maker) border(exports []thing, seen []bound) (api.Import, bool) {
	if len(exports) == 0 {
		return api.Import{}, false
	}
	from := exports[g.below(len(exports))]
	t := g.annotated(g.near(from.t))
	if g.static {
		t = g.filled(from.t)
	}
	return api.Import{From: from.module, Name: from.name, T: t}, !sees(seen, from.name)
}

// def makes a def that sees these names.
func (g *maker) def(seen []bound) (api.Def, bool) {
	t := g.typ(4)
	own := g.near(t)
	l := g.part(own, seen, g.below(4))
	if g.below(6) == 0 && len(seen) > 0 { // just what is seen
		b := seen[g.below(len(seen))]
		l, t = []api.Node{name(b.name)}, g.near(b.t)
	}
	d := api.Def{Name: g.one("x", "y", "z", "f", "g", "h", "u", "v"), Export: g.below(3) > 0, T: g.annotated(t), Tree: l}
	return d, !sees(seen, d.Name) && len(l) < 300
}

// spoilt changes one thing of a program, so that tree.Modules may still take it.
func (g *maker) spoilt(l []api.Module) []api.Module {
	l = placed(l)
	m := &l[g.below(len(l))]
	var x *api.Import
	if len(m.Imports) > 0 {
		x = &m.Imports[g.below(len(m.Imports))]
	}
	var d *api.Def
	if len(m.Defs) > 0 {
		d = &m.Defs[g.below(len(m.Defs))]
	}
	switch turn := g.below(14); {
	case turn == 0:
		m.Name = g.one("a", "b", "x", "q")
	case turn == 1:
		other := &l[g.below(len(l))]
		*m, *other = *other, *m
	case turn == 2:
		m.Defs = nil
	case turn == 3 && len(l) > 1:
		l = l[1:]
	case turn == 4 && x != nil:
		x.From = g.one("a", "b", "x", m.Name)
	case turn == 5 && x != nil:
		x.Name = g.name()
	case turn == 6 && x != nil:
		x.T = g.typ(3)
	case turn == 7 && x != nil:
		m.Imports = append(m.Imports, *x)
	case turn == 8 && x != nil:
		m.Imports = m.Imports[1:]
	case d == nil:
	case turn == 9:
		d.Name = g.name()
	case turn == 10:
		d.T = g.typ(3)
	case turn == 11:
		d.Export = !d.Export
	case turn == 12:
		other := &m.Defs[g.below(len(m.Defs))]
		*d, *other = *other, *d
	default:
		d.Tree = g.spoiltTree(d.Tree)
	}
	return placed(l)
}

// spoiltTree changes one node.
func (g *maker) spoiltTree(l []api.Node) []api.Node {
	l = slices.Clone(l)
	n := &l[g.below(len(l))]
	switch n.Kids {
	case 0:
		*n = []api.Node{num(1), {Kind: api.Str}, {Kind: api.Truth}, name(g.name()), name("unbound")}[g.below(5)]
	case 1:
		*n = api.Node{Kind: []int8{api.Neg, api.Size, api.First, api.Second, api.Head, api.Tail, api.Empty, api.Box, api.Get}[g.below(9)], Kids: 1}
	case 2:
		*n = api.Node{Kind: []int8{api.Call, api.Add, api.Join, api.Eq, api.Pair, api.Cons, api.Set, api.List}[g.below(8)], Kids: 2}
	}
	return l
}

func never(int) bool { return false }

func TestDealtPrograms(t *testing.T) {
	g := maker{dice: 12}
	m := newModel()
	rules, kinds := map[int]int{}, map[api.Errno]int{}
	borders, far := 0, int64(0)
	for range 1500 {
		l := g.dealt(never)
		a := wantAsModel(t, m, l)
		wantSound(t, l, a)
		wantAsOneTree(t, l, a)
		for _, s := range a.Sites {
			rules[s.Rule]++
		}
		for _, x := range l {
			borders += len(x.Imports)
		}
		for _, n := range a.Term {
			if n.Kind == api.Var {
				far = max(far, n.N)
			}
		}
		for range 6 {
			if l = g.spoilt(l); len(l) == 0 {
				break
			}
			a := wantAsModel(t, m, l)
			kinds[a.e]++
			if a.e == api.OK {
				wantSound(t, l, a)
				wantAsOneTree(t, l, a)
			}
		}
	}
	t.Logf("rules %v, %d imports, at most %d off, spoilt %v", rules, borders, far, kinds)
	for rule := range 18 {
		if rules[rule+1] < 20 {
			t.Errorf("too few casts of the rule %d: %v", rule+1, rules)
		}
	}
	for _, e := range []api.Errno{api.OK, api.ErrTwice, api.ErrImport, api.ErrType, api.ErrUnbound, api.ErrHead, api.ErrBranch, api.ErrEmpty} {
		if kinds[e] < 20 {
			t.Errorf("too few kinds of programs: %v", kinds)
		}
	}
	if borders < 1000 || far < 10 {
		t.Errorf("too few imports: %d, at most %d off", borders, far)
	}
}
