package insert_test

import (
	"slices"
	"strconv"
	"strings"
	"testing"

	"culprit/api"
	"culprit/check"
)

// The chapter's table, row by row: the kinds; the casts in their order: the kid (* each one, from the left), to which type, by which rule.
// S, U and T are annotations; M is the meet of the kids from the first one named on; >AB and the like: to that head with ? for its parts, if the kid is of ?; A is then its first part.
const tableText = `
Fn Rec : 0 U 1
Let : 0 S 2
Call : 0 >AB 3 ; 1 A 4
If : 0 b 5 ; 1 M 6 ; 2 M 7
Add Sub Mul Neg Eq Less : * i 8
Join Size : * t 9
First Second : 0 ,AB 10
Head Tail Empty : 0 lA 11
Get : 0 xA 12
List : * M 13
Cons : 1 lA 11 ; 0 A 14
Set : 0 xA 12 ; 1 A 15
As : 0 T 16
`

// entry of a row: a kid (each one, if it is below 0), what it is cast to, the rule.
type entry struct {
	kid  int
	to   string
	rule int
}

func theTable() map[int8][]entry {
	rows := map[int8][]entry{}
	for _, line := range strings.Split(strings.TrimSpace(tableText), "\n") {
		kinds, casts, _ := strings.Cut(line, ":")
		var row []entry
		for _, cast := range strings.Split(casts, ";") {
			words := strings.Fields(cast)
			kid, e := strconv.Atoi(words[0])
			if e != nil {
				kid = -1
			}
			rule, _ := strconv.Atoi(words[2])
			row = append(row, entry{kid, words[1], rule})
		}
		for _, kind := range strings.Fields(kinds) {
			rows[int8(slices.Index(kindNames(), kind)+1)] = row
		}
	}
	return rows
}

func TestTheTableIsRead(t *testing.T) {
	rows := theTable()
	for i, named := range kindNames() {
		row := rows[int8(i+1)]
		if never := strings.Contains(" Num Str Truth Var Pair Box Cast ", " "+named+" "); never != (len(row) == 0) {
			t.Errorf("the tests misread the row of %s: %v", named, row)
		}
	}
	if want := []entry{{1, "lA", 11}, {0, "A", 14}}; !slices.Equal(rows[api.Cons], want) {
		t.Errorf("the tests misread the row of Cons: %v", rows[api.Cons])
	}
}

// cut takes the type apart at which a text begins.
func cut(t string) (one, rest string) {
	end := 1
	for range strings.Count("lx", t[:1]) + 2*strings.Count(">,", t[:1]) {
		part, _ := cut(t[end:])
		end += len(part)
	}
	return t[:end], t[end:]
}

// together reads a type at the beginning of each of two texts: are they consistent, what is their meet, and what stands behind them.
func together(s, t string) (both, restS, restT string, ok bool) {
	switch {
	case s[0] == '?':
		both, restT = cut(t)
		return both, s[1:], restT, true
	case t[0] == '?':
		both, restS = cut(s)
		return both, restS, t[1:], true
	case s[0] != t[0]:
		return "", "", "", false
	}
	both, restS, restT = s[:1], s[1:], t[1:]
	for range strings.Count("lx", both) + 2*strings.Count(">,", both) {
		var part string
		if part, restS, restT, ok = together(restS, restT); !ok {
			return "", "", "", false
		}
		both += part
	}
	return both, restS, restT, true
}

func consistent(s, t string) bool {
	_, _, _, ok := together(s, t)
	return ok
}

// atLeast: is s at least as precise as t? Then it is what the two know between them.
func atLeast(s, t string) bool {
	both, _, _, ok := together(s, t)
	return ok && both == s
}

// model follows the chapter's words in two walks: one gives the labels, in the order of the casts; the other writes the term, in the order of the list.
type model struct {
	rows  map[int8][]entry
	l     []api.Node
	types []string
	laid  map[int]api.Node // the cast right ahead of a node
	far   []int64          // of Vars: the distance
	sites []api.Site
}

func newModel() *model { return &model{rows: theTable()} }

// answer tells what the chapter says of a tree, in a module that has a name.
func (m *model) answer(module string, l []api.Node, env []bound) answer {
	names, types := apart(env)
	all, e, node := check.Expr(l, names, types)
	if e != api.OK {
		return answer{e: e, node: node}
	}
	m.l, m.types, m.sites = l, all, nil
	m.laid, m.far = map[int]api.Node{}, make([]int64, len(l))
	m.label(0, module, names)
	var term []api.Node
	for at, n := range l {
		if cast, ok := m.laid[at]; ok {
			term = append(term, cast)
		}
		if n.Kind != api.As {
			term = append(term, m.node(at))
		}
	}
	return answer{term: term, t: all[0], sites: m.sites}
}

// label gives labels to the casts of the part at a node, and answers where it ends.
func (m *model) label(at int, module string, around []string) int {
	n := m.l[at]
	if n.Kind == api.Var {
		for m.far[at] = 0; around[len(around)-1-int(m.far[at])] != n.S; m.far[at]++ {
		}
	}
	own := []string{}
	if n.Kind == api.Fn || n.Kind == api.Rec || n.Kind == api.Let {
		own = strings.Fields(n.S)
	}
	var kids []int
	end := at + 1
	for i := range n.Kids {
		kids = append(kids, end)
		if n.Kind == api.Let && i == 0 {
			end = m.label(end, module, around)
		} else {
			end = m.label(end, module, slices.Concat(around, own))
		}
	}
	m.row(at, module, kids)
	return end
}

func (m *model) row(at int, module string, kids []int) {
	first := "" // the first part of what is taken apart
	for _, entry := range m.rows[m.l[at].Kind] {
		some := kids
		if entry.kid >= 0 {
			some = kids[entry.kid : entry.kid+1]
		}
		for _, kid := range some {
			from := m.types[kid]
			to := m.to(entry, at, kids, from)
			switch {
			case entry.to == "A":
				to = first
			case strings.Contains(entry.to, "A"):
				first, _ = cut(to[1:])
			}
			if from == to {
				continue
			}
			place := m.l[kid].At
			if entry.rule == 16 {
				place = m.l[at].At
			}
			m.sites = append(m.sites, api.Site{Module: module, At: place, Rule: entry.rule})
			m.laid[kid] = api.Node{Kind: api.Cast, Kids: 1, N: int64(len(m.sites)), T: from, U: to, At: place}
		}
	}
}

// to answers what an entry casts a kid of a type to.
func (m *model) to(e entry, at int, kids []int, from string) string {
	n := m.l[at]
	absent := func(t string) string {
		if t == "" {
			return "?"
		}
		return t
	}
	switch {
	case e.to == "S":
		return absent(n.T)
	case e.to == "U":
		return absent(n.U)
	case e.to == "T":
		return n.T
	case e.to == "M":
		if n.Kind == api.If {
			kids = kids[1:]
		}
		return m.meet(kids)
	case len(e.to) > 1 && from == "?":
		return e.to[:1] + strings.Repeat("?", len(e.to)-1)
	case len(e.to) > 1:
		return from
	}
	return e.to
}

func (m *model) meet(kids []int) string {
	all := "?"
	for _, kid := range kids {
		all, _, _, _ = together(all, m.types[kid])
	}
	return all
}

// node answers what a node becomes.
func (m *model) node(at int) api.Node {
	n := m.l[at]
	switch n.Kind {
	case api.Var:
		n.S, n.N = "", m.far[at]
	case api.Fn, api.Rec, api.Let:
		n.S = ""
		if n.T == "" {
			n.T = "?"
		}
		if n.U == "" && n.Kind != api.Let {
			n.U = "?"
		}
	case api.List:
		n.T = m.types[at][1:]
	}
	return n
}

// wantAsModel holds the program against the model, and answers what both say.
func wantAsModel(t *testing.T, m *model, l []api.Node, env []bound) answer {
	t.Helper()
	want, got := m.answer("m", l, env), given("m", l, env)
	if !got.equals(want) {
		t.Fatalf("P11.1: Expr(%s) in %v = %s\nwant %s", shown(told(l)), shown(env), shown(got), shown(want))
	}
	return got
}

// eachTree visits the trees of just so many nodes, each of which is one of some.
func eachTree(some []api.Node, nodes int, visit func(l []api.Node)) {
	var from func(l []api.Node, missing int)
	from = func(l []api.Node, missing int) {
		if missing == 0 {
			if len(l) == nodes {
				visit(placed(l))
			}
			return
		}
		if len(l)+missing > nodes {
			return
		}
		for _, n := range some {
			from(append(slices.Clone(l), n), missing-1+n.Kids)
		}
	}
	from(nil, 1)
}

// someNodes: of each kind one or some.
func someNodes() []api.Node {
	l := []api.Node{num(1), {Kind: api.Str, S: "a"}, {Kind: api.Truth, N: 1}, name("x"), name("y"), {Kind: api.List},
		{Kind: api.List, Kids: 1}, {Kind: api.List, Kids: 2}, {Kind: api.List, Kids: 3}, {Kind: api.If, Kids: 3},
		{Kind: api.As, Kids: 1, T: "?"}, {Kind: api.As, Kids: 1, T: ">?i"},
		{Kind: api.Let, Kids: 2, S: "x"}, {Kind: api.Let, Kids: 2, S: "y", T: "i"},
		{Kind: api.Fn, Kids: 1, S: "x"}, {Kind: api.Fn, Kids: 1, S: "y", T: "i", U: "i"},
		{Kind: api.Rec, Kids: 1, S: "x y", T: "i"}, {Kind: api.Rec, Kids: 1, S: "y y", U: "l?"}}
	for _, kind := range []int8{api.Neg, api.Size, api.First, api.Second, api.Head, api.Tail, api.Empty, api.Box, api.Get} {
		l = append(l, api.Node{Kind: kind, Kids: 1})
	}
	for _, kind := range []int8{api.Call, api.Add, api.Sub, api.Mul, api.Join, api.Eq, api.Less, api.Pair, api.Cons, api.Set} {
		l = append(l, api.Node{Kind: kind, Kids: 2})
	}
	return l
}

func TestEveryShortTree(t *testing.T) {
	m := newModel()
	taken, casts, refused := 0, 0, 0
	envs := [][]bound{nil, {{"y", "b"}}}
	for _, x := range []string{"?", "i", "t", ">i?", ",it", "l?", "li", "x?"} {
		envs = append(envs, []bound{{"x", "b"}, {"y", "i"}, {"x", x}})
	}
	for nodes := 1; nodes <= 4; nodes++ {
		eachTree(someNodes(), nodes, func(l []api.Node) {
			for i, env := range envs {
				if nodes == 4 && i%4 != 2 { // some of them, for the time it takes
					continue
				}
				a := wantAsModel(t, m, l, env)
				if a.e != api.OK {
					refused++
					continue
				}
				taken++
				casts += len(a.sites)
				wantSound(t, "m", l, env, a)
			}
		})
	}
	t.Logf("%d trees taken with %d casts, %d refused", taken, casts, refused)
	if taken < 10000 || casts < 10000 || refused < 10000 {
		t.Errorf("too few kinds of trees: %d taken with %d casts, %d refused", taken, casts, refused)
	}
}
