package tree_test

import (
	"fmt"
	"math"
	"slices"
	"strings"

	"culprit/api"
)

// Nodes as the tests write them; a node's Kids are those of the chapter's table.

func num(n int64) api.Node { return api.Node{Kind: api.Num, N: n} }

func name(s string) api.Node { return api.Node{Kind: api.Var, S: s} }

func with(kind int8) api.Node { return api.Node{Kind: kind, Kids: kidsOf(kind)} }

func list(kids int) api.Node { return api.Node{Kind: api.List, Kids: kids} }

func fn(s string) api.Node { return api.Node{Kind: api.Fn, Kids: 1, S: s} }

func rec(s string) api.Node { return api.Node{Kind: api.Rec, Kids: 1, S: s} }

func let(s string) api.Node { return api.Node{Kind: api.Let, Kids: 2, S: s} }

func tree(l ...api.Node) []api.Node { return l }

// shown writes a value so that a line of a test's report stays short.
func shown(v any) string {
	s := fmt.Sprint(v)
	if len(s) > 300 {
		return s[:300] + " .."
	}
	return s
}

// kidsOf: the column kids of the chapter's table; 0 of a kind of which it tells no number.
func kidsOf(kind int8) int {
	switch kind {
	case api.Fn, api.Rec, api.As, api.Neg, api.Size, api.First, api.Second, api.Head, api.Tail, api.Empty, api.Box, api.Get:
		return 1
	case api.Let, api.Call, api.Add, api.Sub, api.Mul, api.Join, api.Eq, api.Less, api.Pair, api.Cons, api.Set:
		return 2
	case api.If:
		return 3
	}
	return 0
}

// The texts that the tests lay into fields, each with what it may be told of it, by hand.
type said struct {
	s                            string
	literal, name, twoNames, typ bool
}

func sayings() []said {
	full := strings.Repeat("n", 32)
	return []said{
		{s: "", literal: true},
		{s: "x", literal: true, name: true},
		{s: "i", literal: true, name: true, typ: true},
		{s: full, literal: true, name: true},
		{s: full + "n", literal: true},
		{s: "let", literal: true},
		{s: "1a", literal: true},
		{s: "_", literal: true},
		{s: "f x", literal: true, twoNames: true},
		{s: "f f", literal: true, twoNames: true},
		{s: full[1:] + " " + full, literal: true, twoNames: true},
		{s: full + " " + full, twoNames: true},
		{s: "f  x", literal: true},
		{s: "f x ", literal: true},
		{s: " f x", literal: true},
		{s: "f x y", literal: true},
		{s: "f ", literal: true},
		{s: " x", literal: true},
		{s: " ", literal: true},
		{s: "f let", literal: true},
		{s: "rec x", literal: true},
		{s: "f\tx"},
		{s: "f\nx", literal: true},
		{s: "\n", literal: true},
		{s: "\r"},
		{s: " ~\"\\", literal: true},
		{s: "a\x1f"},
		{s: "a\x7f"},
		{s: "\x00"},
		{s: "é"},
		{s: strings.Repeat("-", 64), literal: true},
		{s: strings.Repeat("-", 65)},
		{s: "?", literal: true, typ: true},
		{s: ">il?", literal: true, typ: true},
		{s: ">i", literal: true},
		{s: "ii", literal: true, name: true},
		{s: strings.Repeat("l", 63) + "i", literal: true, typ: true},
		{s: strings.Repeat("l", 64) + "i"},
	}
}

// may tells of a node whose texts are told by hand whether it may be: the chapter's table, row by row.
func may(kind int8, kids int, n int64, s, t, u said) bool {
	noN, noS, noT, noU := n == 0, s.s == "", t.s == "", u.s == ""
	annT, annU := noT || t.typ, noU || u.typ
	if kind == api.List {
		return kids >= 0 && noN && noS && noT && noU
	}
	if kids != kidsOf(kind) {
		return false
	}
	switch kind {
	case api.Num:
		return n >= 0 && noS && noT && noU
	case api.Str:
		return noN && s.literal && noT && noU
	case api.Truth:
		return (n == 0 || n == 1) && noS && noT && noU
	case api.Var:
		return noN && s.name && noT && noU
	case api.Fn:
		return noN && s.name && annT && annU
	case api.Rec:
		return noN && s.twoNames && annT && annU
	case api.Let:
		return noN && s.name && annT && noU
	case api.As:
		return noN && noS && t.typ && noU
	case api.Call, api.If, api.Add, api.Sub, api.Mul, api.Join, api.Eq, api.Less, api.Neg, api.Size, api.Pair, api.First, api.Second,
		api.Head, api.Tail, api.Empty, api.Cons, api.Box, api.Get, api.Set:
		return noN && noS && noT && noU
	}
	return false
}

// endOf goes by the chapter's words: the part at a node is it and all that its kids have. Where there is none it answers the place that fails.
func endOf(l []api.Node, at int) (end int, ok bool) {
	if at == len(l) || l[at].Kids < 0 {
		return at, false
	}
	end = at + 1
	for range l[at].Kids {
		if end, ok = endOf(l, end); !ok {
			return end, false
		}
	}
	return end, true
}

// kidsAt: the places at which the parts of a node's kids begin.
func kidsAt(l []api.Node, at int) []int {
	var kids []int
	next := at + 1
	for range l[at].Kids {
		kids = append(kids, next)
		next, _ = endOf(l, next)
	}
	return kids
}

// depths: of a whole list, each node's.
func depths(l []api.Node) []int {
	all := make([]int, len(l))
	var down func(at, depth int)
	down = func(at, depth int) {
		all[at] = depth
		for _, kid := range kidsAt(l, at) {
			down(kid, depth+1)
		}
	}
	down(0, 1)
	return all
}

// freeOf: the names of the Vars of the part at a node that are not among those that are bound above it, as often as they stand there.
func freeOf(l []api.Node, at int, above []string) []string {
	n := l[at]
	if n.Kind == api.Var && !slices.Contains(above, n.S) {
		return []string{n.S}
	}
	var free []string
	for i, kid := range kidsAt(l, at) {
		bound := slices.Clone(above)
		switch {
		case n.Kind == api.Fn, n.Kind == api.Let && i == 1:
			bound = append(bound, n.S)
		case n.Kind == api.Rec:
			bound = append(bound, strings.Fields(n.S)...)
		}
		free = append(free, freeOf(l, kid, bound)...)
	}
	return free
}

// once leaves of each text the first one.
func once(texts []string) []string {
	var first []string
	for _, s := range texts {
		if !slices.Contains(first, s) {
			first = append(first, s)
		}
	}
	return first
}

// dice deals numbers by a rule, so that each run of a test deals the same ones.
type dice uint64

func (d *dice) below(n int) int {
	*d = *d*6364136223846793005 + 1442695040888963407
	return int(uint64(*d) >> 33 % uint64(n))
}

func (d *dice) one(texts ...string) string { return texts[d.below(len(texts))] }

// grown deals a tree that may be, of at most room nodes and at most deep nested, room and deep being at least 1.
func (d *dice) grown(room, deep int) []api.Node {
	n := d.node()
	if n.Kids >= room || n.Kids > 0 && deep == 1 {
		n = d.leaf()
	}
	l := []api.Node{n}
	for left := n.Kids; left > 0; left-- {
		free := room - len(l) - (left - 1) // each kid behind this one has at least a node
		if left > 1 {
			free = 1 + d.below(free)
		}
		l = append(l, d.grown(free, deep-1)...)
	}
	return l
}

func (d *dice) leaf() api.Node {
	n := []api.Node{num(int64(d.below(99))), num(math.MaxInt64), {Kind: api.Str, S: d.one("", "a b", "\n", "~")}, {Kind: api.Truth, N: int64(d.below(2))}, list(0), name(d.one("a", "b", "c")), name(d.one("a", "b", "f", "x"))}[d.below(7)]
	n.At = api.Place{Line: d.below(9), Col: d.below(99)}
	return n
}

func (d *dice) node() api.Node {
	kind := int8(1 + d.below(29))
	n := with(kind)
	annotation := func() string { return d.one("", "i", "?", ">b?") }
	switch kind {
	case api.Num, api.Str, api.Truth, api.Var:
		return d.leaf()
	case api.List:
		n.Kids = d.below(5)
	case api.As:
		n.T = d.one("i", "?", "l?", ",ib")
	case api.Let:
		n.S, n.T = d.one("a", "b", "c"), annotation()
	case api.Fn:
		n.S, n.T, n.U = d.one("a", "b", "x"), annotation(), annotation()
	case api.Rec:
		n.S, n.T, n.U = d.one("a b", "f x", "c c", "f a"), annotation(), annotation()
	}
	n.At = api.Place{Line: d.below(9), Col: d.below(99)}
	return n
}

// eachList hands out every list over some nodes that has at most long of them.
func eachList(some []api.Node, long int, see func([]api.Node)) {
	var grow func([]api.Node)
	grow = func(l []api.Node) {
		see(l)
		if len(l) == long {
			return
		}
		for _, n := range some {
			grow(append(slices.Clone(l), n))
		}
	}
	grow(nil)
}
