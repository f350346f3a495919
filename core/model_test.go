package core_test

import (
	"slices"
	"strings"
	"testing"

	"culprit/api"
)

// The chapter's table, row by row: the kinds; what its kids are; its type. T and U are the node's own; A and B are what they are held against first, and the same behind that.
const tableText = `
Num : : i
Str : : t
Truth : : b
Fn Rec : U : >TU
Call : >AB A : B
Let : A B : B
If : b A A : A
Add Sub Mul : i i : i
Join : t t : t
Eq Less : i i : b
Neg : i : i
Size : t : i
Pair : A B : ,AB
First : ,AB : A
Second : ,AB : B
Head : lA : A
Tail : lA : lA
Empty : lA : b
Cons : A lA : lA
Box : A : xA
Get : xA : A
Set : xA A : A
Cast : T : U
`

// line of the table.
type line struct {
	kids  []string
	given string
}

func theTable() map[int8]line {
	lines := map[int8]line{api.Var: {}, api.List: {given: "lT"}}
	for _, text := range strings.Split(strings.TrimSpace(tableText), "\n") {
		columns := strings.Split(text, ":")
		for _, kind := range strings.Fields(columns[0]) {
			lines[kindOf(kind)] = line{strings.Fields(columns[1]), strings.TrimSpace(columns[2])}
		}
	}
	return lines
}

func TestTheTableIsRead(t *testing.T) {
	lines := theTable()
	for _, name := range kindNames() {
		if _, ok := lines[kindOf(name)]; ok == (name == "As") {
			t.Errorf("the tests misread the row of %s: %v", name, ok)
		}
	}
	if len(lines) != 29 {
		t.Errorf("the tests read %d rows", len(lines))
	}
}

// isType: a text is one, if it is used up by cutting one type off.
func isType(t string) bool {
	missing := 1
	for i := range len(t) {
		if missing == 0 || !strings.Contains("ibt?>,lx", t[i:i+1]) {
			return false
		}
		missing += strings.Count("lx", t[i:i+1]) + 2*strings.Count(">,", t[i:i+1]) - 1
	}
	return missing == 0 && len(t) <= 64
}

// cut takes the type apart at which a text begins.
func cut(t string) (one, rest string) {
	end := 1
	for range strings.Count("lx", t[:1]) + 2*strings.Count(">,", t[:1]) {
		part, _ := cut(t[end:])
		end += len(part)
	}
	return t[:end], t[end:]
}

// agree reads a type at the beginning of each of two texts: are they consistent, and what stands behind them.
func agree(s, t string) (restS, restT string, ok bool) {
	switch {
	case s[0] == '?':
		_, restT = cut(t)
		return s[1:], restT, true
	case t[0] == '?':
		_, restS = cut(s)
		return restS, t[1:], true
	case s[0] != t[0]:
		return "", "", false
	}
	restS, restT, ok = s[1:], t[1:], true
	for range strings.Count("lx", s[:1]) + 2*strings.Count(">,", s[:1]) {
		if restS, restT, ok = agree(restS, restT); !ok {
			return "", "", false
		}
	}
	return restS, restT, true
}

func consistent(s, t string) bool {
	_, _, ok := agree(s, t)
	return ok
}

// depthsOf: of a list that is whole, each node's.
func depthsOf(l []api.Node) []int {
	var all, open []int
	for _, n := range l {
		for len(open) > 0 && open[len(open)-1] == 0 {
			open = open[:len(open)-1]
		}
		if len(open) > 0 {
			open[len(open)-1]--
		}
		open = append(open, n.Kids)
		all = append(all, len(open))
	}
	return all
}

// model follows the chapter's words.
type model struct {
	lines map[int8]line
	l     []api.Node
	types []string   // of each node
	envs  [][]string // the binders around each node, the nearest one first
	ends  []int      // where the part at each node ends
}

func newModel() *model { return &model{lines: theTable()} }

// outline: the first two of Check's errors.
func (m *model) outline() verdict {
	if len(m.l) > 16384 {
		return verdict{e: api.ErrMany}
	}
	open := []int{1} // of each node on the way, and of the term itself, how many kids are still to come
	for i, n := range m.l {
		for len(open) > 0 && open[len(open)-1] == 0 {
			open = open[:len(open)-1]
		}
		if len(open) == 0 {
			return verdict{e: api.ErrTree, node: i}
		}
		asked, known := m.lines[n.Kind]
		if !known || n.Kind != api.List && n.Kids != len(asked.kids) || n.Kids < 0 {
			return verdict{e: api.ErrTree, node: i}
		}
		if len(open) > 1024 {
			return verdict{e: api.ErrDeep, node: i}
		}
		open[len(open)-1]--
		open = append(open, n.Kids)
	}
	for _, missing := range open {
		if missing > 0 {
			return verdict{e: api.ErrTree, node: len(m.l)}
		}
	}
	return verdict{}
}

// judge answers what the chapter says of a list.
func (m *model) judge(l []api.Node) verdict {
	m.l = l
	if v := m.outline(); v.e != api.OK {
		return v
	}
	m.types, m.envs, m.ends = make([]string, len(l)), make([][]string, len(l)), make([]int, len(l))
	return m.part(0, nil)
}

// ahead: what is asked of a node ahead of its kids.
func (m *model) ahead(n api.Node, env []string) api.Errno {
	switch n.Kind {
	case api.Str:
		if len(n.S) > 64 {
			return api.ErrLong
		}
	case api.Truth:
		if n.N != 0 && n.N != 1 {
			return api.ErrNumber
		}
	case api.Var:
		for i := range env {
			if int64(i) == n.N {
				return api.OK
			}
		}
		return api.ErrUnbound
	case api.Fn, api.Rec:
		if !isType(n.T) || !isType(n.U) {
			return api.ErrShape
		}
		if !isType(">" + n.T + n.U) {
			return api.ErrLarge
		}
	case api.List:
		if !isType(n.T) {
			return api.ErrShape
		}
	case api.Cast:
		switch {
		case !isType(n.T), !isType(n.U):
			return api.ErrShape
		case !consistent(n.T, n.U):
			return api.ErrType
		case n.N < 1, n.N > 2147483647:
			return api.ErrNumber
		}
	}
	return api.OK
}

// part judges the part at a node.
func (m *model) part(at int, env []string) verdict {
	n := m.l[at]
	m.envs[at] = env
	if e := m.ahead(n, env); e != api.OK {
		return verdict{e: e, node: at}
	}
	known := map[byte]string{'T': n.T, 'U': n.U}
	asked := slices.Clone(m.lines[n.Kind].kids)
	if n.Kind == api.List {
		asked = slices.Repeat([]string{"T"}, n.Kids)
	}
	var kids []string
	end := at + 1
	for i := range n.Kids {
		inner := env
		switch {
		case n.Kind == api.Fn:
			inner = append([]string{n.T}, env...)
		case n.Kind == api.Rec:
			inner = append([]string{n.T, ">" + n.T + n.U}, env...)
		case n.Kind == api.Let && i == 1:
			inner = append([]string{kids[0]}, env...)
		}
		v := m.part(end, inner)
		if v.e != api.OK {
			return v
		}
		kids, end = append(kids, v.t), m.ends[end]
	}
	for i, kid := range kids {
		if !matches(asked[i], kid, known) {
			return verdict{e: api.ErrType, node: at}
		}
	}
	t := filled(m.lines[n.Kind].given, known)
	if n.Kind == api.Var {
		t = env[n.N]
	}
	if len(t) > 64 {
		return verdict{e: api.ErrLarge, node: at}
	}
	m.types[at], m.ends[at] = t, end
	return verdict{t: t}
}

// matches holds what is asked against a type.
func matches(asked, t string, known map[byte]string) bool {
	for i := range len(asked) {
		if t == "" {
			return false
		}
		if !strings.Contains("ABTU", asked[i:i+1]) {
			if t[0] != asked[i] {
				return false
			}
			t = t[1:]
			continue
		}
		part, rest := cut(t)
		if before, ok := known[asked[i]]; ok && before != part {
			return false
		}
		known[asked[i]], t = part, rest
	}
	return t == ""
}

func filled(text string, known map[byte]string) string {
	all := ""
	for i := range len(text) {
		if t, ok := known[text[i]]; ok {
			all += t
		} else {
			all += text[i : i+1]
		}
	}
	return all
}

// wantAsModel holds the program against the model, and answers what both say.
func wantAsModel(t *testing.T, m *model, l []api.Node) verdict {
	t.Helper()
	want := m.judge(l)
	if got := given(l); got != want {
		t.Fatalf("P10.1: Check(%s) = %+v; want %+v", told(l), got, want)
	}
	return want
}

// eachList visits every list over some nodes that has at most so many of them.
func eachList(some []api.Node, most int, visit func(l []api.Node)) {
	var grow func(l []api.Node)
	grow = func(l []api.Node) {
		visit(l)
		if len(l) == most {
			return
		}
		for _, n := range some {
			grow(append(slices.Clone(l), n))
		}
	}
	grow(nil)
}

func TestEveryShortList(t *testing.T) {
	m := newModel()
	counts := map[api.Errno]int{}
	some := []api.Node{{Kind: api.Num}, {Kind: api.Truth, N: 2}, {Kind: api.Neg, Kids: 1}, {Kind: api.Neg, Kids: 2}, {Kind: api.Add, Kids: 2}, {Kind: api.As, Kids: 1}, {Kind: api.Num, Kids: 1},
		{Kind: api.List, T: "i"}, {Kind: api.List, Kids: 1, T: "i"}, {Kind: api.List, Kids: 3, T: "li"}, {Kind: api.List, Kids: -1, T: "i"}, {Kind: api.List, Kids: 2, T: "z"}, {Kind: api.List, Kids: 1 << 62, T: "i"}}
	eachList(some, 5, func(l []api.Node) { counts[wantAsModel(t, m, l).e]++ })
	t.Logf("%v", counts)
	for _, e := range []api.Errno{api.OK, api.ErrTree, api.ErrType, api.ErrNumber, api.ErrShape} {
		if counts[e] < 20 {
			t.Errorf("too few kinds of lists: %v", counts)
		}
	}
}

// eachTree visits the terms of just so many nodes, each of which is one of some.
func eachTree(some []api.Node, nodes int, visit func(l []api.Node)) {
	var from func(l []api.Node, missing int)
	from = func(l []api.Node, missing int) {
		if missing == 0 {
			if len(l) == nodes {
				visit(l)
			}
			return
		}
		if len(l)+missing > nodes {
			return
		}
		for _, n := range some {
			from(append(slices.Clone(l), n), missing-1+n.Kids)
		}
	}
	from(nil, 1)
}

// someNodes: of each kind one or some.
func someNodes() []api.Node {
	l := []api.Node{{Kind: api.Num, N: 1}, {Kind: api.Str, S: "a"}, {Kind: api.Truth, N: 1}, {Kind: api.Truth, N: 2}, {Kind: api.Var}, {Kind: api.Var, N: 1}, {Kind: api.Var, N: 2}, {Kind: api.Var, N: -1},
		{Kind: api.List, T: "i"}, {Kind: api.List, Kids: 1, T: "i"}, {Kind: api.List, Kids: 2, T: "?"}, {Kind: api.List, Kids: 3, T: "z"},
		{Kind: api.Fn, Kids: 1, T: "i", U: "i"}, {Kind: api.Fn, Kids: 1, T: "?", U: "t"}, {Kind: api.Fn, Kids: 1, T: "i", U: "ii"},
		{Kind: api.Rec, Kids: 1, T: "i", U: "i"}, {Kind: api.Rec, Kids: 1, T: "t", U: "?"},
		{Kind: api.Cast, Kids: 1, T: "i", U: "?", N: 1}, {Kind: api.Cast, Kids: 1, T: "?", U: "t", N: 2}, {Kind: api.Cast, Kids: 1, T: "i", U: "b", N: 0}, {Kind: api.Cast, Kids: 1, T: ">ii", U: ">?i", N: 3}, {Kind: api.Cast, Kids: 1, T: "t", U: "?"},
		{Kind: api.If, Kids: 3}}
	for _, kind := range []int8{api.Neg, api.Size, api.First, api.Second, api.Head, api.Tail, api.Empty, api.Box, api.Get} {
		l = append(l, api.Node{Kind: kind, Kids: 1})
	}
	for _, kind := range []int8{api.Call, api.Let, api.Add, api.Sub, api.Mul, api.Join, api.Eq, api.Less, api.Pair, api.Cons, api.Set} {
		l = append(l, api.Node{Kind: kind, Kids: 2})
	}
	return l
}

// Every short term by itself, and below binders of some types.
func TestEveryShortTerm(t *testing.T) {
	m := newModel()
	counts := map[api.Errno]int{}
	around := [][]string{nil}
	for _, nearest := range strings.Fields("? i t b >ii >?t ,it l? li x? xt") {
		around = append(around, []string{nearest, "i"})
	}
	for nodes := 1; nodes <= 4; nodes++ {
		eachTree(someNodes(), nodes, func(l []api.Node) {
			for i, nearest := range around {
				if nodes == 4 && i%4 != 1 { // some of them, for the time it takes
					continue
				}
				counts[wantAsModel(t, m, under(nearest, l)).e]++
			}
		})
	}
	t.Logf("%v", counts)
	for _, e := range []api.Errno{api.OK, api.ErrType, api.ErrUnbound, api.ErrNumber, api.ErrShape} {
		if counts[e] < 5000 {
			t.Errorf("too few kinds of terms: %v", counts)
		}
	}
}
