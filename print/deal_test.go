package print_test

import (
	"math"
	"slices"
	"strings"

	"culprit/api"
	"culprit/tree"
)

// dice deals numbers by a rule, so that each run of a test deals the same ones.
type dice uint64

func (d *dice) below(n int) int {
	*d = *d*6364136223846793005 + 1442695040888963407
	return int(uint64(*d) >> 33 % uint64(n))
}

func (d *dice) one(texts ...string) string { return texts[d.below(len(texts))] }

func (d *dice) name() string {
	return d.one("x", "y", "f", "Z9_", "lets", "boxes", "int_", strings.Repeat("n", api.MaxName))
}

func (d *dice) typ() string {
	return d.one("i", "b", "t", "?", ">ii", ">>ii?", ">i>b?", ",i?", ",>ii,tt", "l?", "l>??", "xi", "x>ii", "xx,bl>t?", strings.Repeat("l", api.MaxType-1)+"?")
}

func (d *dice) annotation() string {
	if d.below(2) == 0 {
		return ""
	}
	return d.typ()
}

func (d *dice) place() api.Place { return api.Place{Line: d.below(9), Col: d.below(9) - 4} }

// filled makes a node of a kind that may be.
func (d *dice) filled(kind int8) api.Node {
	n := api.Node{Kind: kind, At: d.place()}
	n.Kids, _ = tree.Arity(kind)
	switch kind {
	case api.Num:
		n.N = []int64{0, 1, int64(d.below(1000)), math.MaxInt64}[d.below(4)]
	case api.Str:
		n.S = d.one("", "a b", "\n", "\"", "\\", "(", ")", "((", "fn (x) =>", "a)(b", strings.Repeat("\"", api.MaxText))
	case api.Truth:
		n.N = int64(d.below(2))
	case api.Var:
		n.S = d.name()
	case api.Fn:
		n.S, n.T, n.U = d.name(), d.annotation(), d.annotation()
	case api.Rec:
		n.S, n.T, n.U = d.name()+" "+d.name(), d.annotation(), d.annotation()
	case api.Let:
		n.S, n.T = d.name(), d.annotation()
	case api.As:
		n.T = d.typ()
	case api.List:
		n.Kids = d.below(4)
	}
	return n
}

// grown deals a tree of about so many nodes that is at most so deep.
func (d *dice) grown(room, deep int) []api.Node {
	var l []api.Node
	open := 0 // kids that are still to come
	var part func(deep int)
	part = func(deep int) {
		kind := int8(1 + d.below(len(kindNames())))
		if kids, _ := tree.Arity(kind); kids == 0 && open == 0 && len(l) < room/2 {
			kind = api.Call // not over so early
		}
		if deep == 1 || len(l)+open >= room {
			kind = []int8{api.Num, api.Str, api.Truth, api.Var}[d.below(4)]
		}
		n := d.filled(kind)
		l = append(l, n)
		open += n.Kids
		for range n.Kids {
			open--
			part(deep - 1)
		}
	}
	part(deep)
	return l
}

// modules deals some, of few enough nodes in all.
func (d *dice) modules() []api.Module {
	var l []api.Module
	for range d.below(4) {
		m := api.Module{Name: d.name(), At: d.place()}
		for range d.below(3) {
			m.Imports = append(m.Imports, api.Import{From: d.name(), Name: d.name(), T: d.annotation(), At: d.place()})
		}
		for range d.below(4) {
			m.Defs = append(m.Defs, api.Def{Name: d.name(), Export: d.below(2) == 0, T: d.annotation(), Tree: d.grown(1+d.below(40), 8), At: d.place()})
		}
		l = append(l, m)
	}
	return l
}

// eachTree visits the trees of just so many nodes, each of which is one of some.
func eachTree(some []api.Node, nodes int, visit func(l []api.Node)) {
	var from func(l []api.Node, missing int)
	from = func(l []api.Node, missing int) {
		if missing == 0 {
			if len(l) == nodes {
				visit(l)
			}
			return
		}
		if len(l)+missing > nodes {
			return
		}
		for _, n := range some {
			from(append(slices.Clone(l), n), missing-1+n.Kids)
		}
	}
	from(nil, 1)
}
