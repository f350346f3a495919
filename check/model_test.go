package check_test

import (
	"slices"
	"strconv"
	"strings"
	"testing"

	"culprit/api"
	tested "culprit/check"
)

// The chapter's table, row by row: the kinds; what is asked; the type. 0 and 1 are kids and their types; S, U and T are annotations, A and B parts that an earlier question found.
// 0~X: the type of the kid 0 ~ X, else ErrType at it (with a ! behind it: at the node). 0>AB: it matches the head > with the parts A and B, else ErrHead at it. 1&2: the one ~ the other, else ErrBranch at the other; M is their meet.
const tableText = `
Num : : i
Str : : t
Truth : : b
Fn Rec : 0~U : >SU
Let : 0~S : 1
Call : 0>AB 1~A : B
If : 0~b 1&2 : M
Add Sub Mul : 0~i 1~i : i
Neg : 0~i : i
Eq Less : 0~i 1~i : b
Join : 0~t 1~t : t
Size : 0~t : i
Pair : : ,01
First : 0,AB : A
Second : 0,AB : B
Head : 0lA : A
Tail : 0lA : lA
Empty : 0lA : b
Cons : 1lA 0~A : lA
Box : : x0
Get : 0xA : A
Set : 0xA 1~A : A
As : 0~T! : T
`

// kindNames: the kinds by name, from 1 on.
func kindNames() []string {
	return strings.Fields("Num Str Truth Var Fn Rec Call Let If Add Sub Mul Join Eq Less Neg Size Pair First Second List Head Tail Empty Cons Box Get Set As")
}

// row of the table: what is asked, and the type.
type row struct {
	asked []string
	given string
}

func theTable() map[int8]row {
	rows := map[int8]row{}
	for _, line := range strings.Split(strings.TrimSpace(tableText), "\n") {
		columns := strings.Split(line, ":")
		for _, kind := range strings.Fields(columns[0]) {
			rows[int8(slices.Index(kindNames(), kind)+1)] = row{strings.Fields(columns[1]), strings.TrimSpace(columns[2])}
		}
	}
	return rows
}

func TestTheTableIsRead(t *testing.T) {
	rows := theTable()
	for kind, named := range kindNames() {
		_, ok := rows[int8(kind+1)]
		if special := named == "Var" || named == "List"; ok == special {
			t.Errorf("the tests misread the row of %s: %v", named, ok)
		}
	}
}

// cut takes the type apart at which a text begins.
func cut(t string) (one, rest string) {
	end := 1
	for range strings.Count("lx", t[:1]) + 2*strings.Count(">,", t[:1]) {
		part, _ := cut(t[end:])
		end += len(part)
	}
	return t[:end], t[end:]
}

// together reads a type at the beginning of each of two texts: are they consistent, what is their meet, and what stands behind them.
func together(s, t string) (both, restS, restT string, ok bool) {
	switch {
	case s[0] == '?':
		both, restT = cut(t)
		return both, s[1:], restT, true
	case t[0] == '?':
		both, restS = cut(s)
		return both, restS, t[1:], true
	case s[0] != t[0]:
		return "", "", "", false
	}
	both, restS, restT = s[:1], s[1:], t[1:]
	for range strings.Count("lx", both) + 2*strings.Count(">,", both) {
		var part string
		if part, restS, restT, ok = together(restS, restT); !ok {
			return "", "", "", false
		}
		both += part
	}
	return both, restS, restT, true
}

// consistent: how the rules are read.
func consistent(s, t string) bool {
	_, _, _, ok := together(s, t)
	return ok
}

// same: how they are read where nothing is unknown.
func same(s, t string) bool { return s == t }

// bound: a name with its type, of an environment.
type bound struct {
	name, t string
}

// verdict: what the rules say of a tree.
type verdict struct {
	types []string
	e     api.Errno
	at    int
}

// model follows the chapter's words.
type model struct {
	rows  map[int8]row
	agree func(s, t string) bool
	l     []api.Node
	types []string
	envs  [][]bound // at each node
}

func newModel(agree func(s, t string) bool) *model {
	return &model{rows: theTable(), agree: agree}
}

// judge answers what the rules say of a tree that may be, in an environment that may be.
func (m *model) judge(l []api.Node, env []bound) (v verdict) {
	m.l, m.types, m.envs = l, make([]string, len(l)), make([][]bound, len(l))
	defer func() {
		if thrown := recover(); thrown != nil {
			v = thrown.(verdict)
		}
	}()
	m.part(0, env)
	return verdict{types: m.types}
}

func refuse(e api.Errno, at int) { panic(verdict{e: e, at: at}) }

func small(t string, at int) string {
	if len(t) > 64 {
		refuse(api.ErrLarge, at)
	}
	return t
}

func absent(t string) string {
	if t == "" {
		return "?"
	}
	return t
}

// part checks the part at a node, and answers where it ends.
func (m *model) part(at int, env []bound) int {
	n := m.l[at]
	m.envs[at] = env
	env = env[:len(env):len(env)]
	inner := env
	switch n.Kind {
	case api.Fn, api.Let:
		inner = append(inner, bound{n.S, absent(n.T)})
	case api.Rec:
		two := strings.Fields(n.S)
		inner = append(inner, bound{two[0], ">" + absent(n.T) + absent(n.U)}, bound{two[1], absent(n.T)})
	}
	if n.Kind == api.Fn || n.Kind == api.Rec {
		small(">"+absent(n.T)+absent(n.U), at)
	}
	var kids []int
	end := at + 1
	for i := range n.Kids {
		kids = append(kids, end)
		if n.Kind == api.Let && i == 0 {
			end = m.part(end, env)
		} else {
			end = m.part(end, inner)
		}
	}
	m.types[at] = small(m.typeOf(at, kids, env), at)
	return end
}

func (m *model) typeOf(at int, kids []int, env []bound) string {
	n := m.l[at]
	switch n.Kind {
	case api.Var:
		for _, b := range slices.Backward(env) {
			if b.name == n.S {
				return b.t
			}
		}
		refuse(api.ErrUnbound, at)
	case api.List:
		if len(kids) == 0 {
			return "l?"
		}
		all := m.types[kids[0]]
		for _, kid := range kids[1:] {
			all = m.meet(all, kid, at)
		}
		return "l" + all
	}
	known := map[byte]string{'S': absent(n.T), 'T': n.T, 'U': absent(n.U)}
	for i, kid := range kids {
		known['0'+byte(i)] = m.types[kid]
	}
	for _, question := range m.rows[n.Kind].asked {
		m.ask(question, at, kids, known)
	}
	return filled(m.rows[n.Kind].given, known)
}

// meet of what is known ahead of a kid, and of the kid.
func (m *model) meet(ahead string, kid, at int) string {
	if !m.agree(ahead, m.types[kid]) {
		refuse(api.ErrBranch, kid)
	}
	both, _, _, _ := together(ahead, m.types[kid])
	return small(both, at)
}

func filled(text string, known map[byte]string) string {
	all := ""
	for i := range len(text) {
		if t, ok := known[text[i]]; ok {
			all += t
		} else {
			all += text[i : i+1]
		}
	}
	return all
}

func (m *model) ask(question string, at int, kids []int, known map[byte]string) {
	kid := kids[question[0]-'0']
	switch mark, behind := question[1], question[2:]; mark {
	case '~':
		asked, atNode := strings.CutSuffix(behind, "!")
		if !m.agree(m.types[kid], filled(asked, known)) {
			if !atNode {
				at = kid
			}
			refuse(api.ErrType, at)
		}
	case '&':
		known['M'] = m.meet(m.types[kid], kids[behind[0]-'0'], at)
	default:
		t := m.types[kid]
		if t == "?" {
			t = string(mark) + strings.Repeat("?", len(behind))
		}
		if t[0] != mark {
			refuse(api.ErrHead, kid)
		}
		rest := t[1:]
		for i := range len(behind) {
			known[behind[i]], rest = cut(rest)
		}
	}
}

func apart(env []bound) (names, types []string) {
	for _, b := range env {
		names, types = append(names, b.name), append(types, b.t)
	}
	return names, types
}

// given answers what the program says of a tree.
func given(l []api.Node, env []bound) verdict {
	names, types := apart(env)
	got, e, at := tested.Expr(l, names, types)
	return verdict{got, e, at}
}

func (v verdict) equals(w verdict) bool {
	return slices.Equal(v.types, w.types) && v.e == w.e && v.at == w.at
}

// wantAsModel holds the program against the model, and answers what both say.
func wantAsModel(t *testing.T, m *model, l []api.Node, env []bound) verdict {
	t.Helper()
	want := m.judge(l, env)
	if got := given(l, env); !got.equals(want) {
		t.Fatalf("P8.1: Expr(%s) in %v = %s; want %s", written(l), shown(env), shown(got), shown(want))
	}
	return want
}

// written tells a tree by its kinds, with what stands in them.
func written(l []api.Node) string {
	all := ""
	for _, n := range l {
		all += kindNames()[n.Kind-1]
		if n.Kind == api.List {
			all += "(" + strconv.Itoa(n.Kids) + ")"
		}
		if n.S+n.T+n.U != "" {
			all += "(" + n.S + "|" + n.T + "|" + n.U + ")"
		}
		all += " "
	}
	return shown(all)
}

// eachTree visits the trees of just so many nodes, each of which is one of some.
func eachTree(some []api.Node, nodes int, visit func(l []api.Node)) {
	var from func(l []api.Node, missing int)
	from = func(l []api.Node, missing int) {
		if missing == 0 {
			if len(l) == nodes {
				visit(l)
			}
			return
		}
		if len(l)+missing > nodes {
			return
		}
		for _, n := range some {
			from(append(slices.Clone(l), n), missing-1+n.Kids)
		}
	}
	from(nil, 1)
}

// someNodes: of each kind one or some.
func someNodes() []api.Node {
	l := []api.Node{num(1), {Kind: api.Str, S: "a"}, {Kind: api.Truth, N: 1}, name("x"), name("y"), {Kind: api.List},
		{Kind: api.List, Kids: 1}, {Kind: api.List, Kids: 2}, {Kind: api.List, Kids: 3}, {Kind: api.If, Kids: 3},
		{Kind: api.As, Kids: 1, T: "?"}, {Kind: api.As, Kids: 1, T: ">?i"},
		{Kind: api.Let, Kids: 2, S: "x"}, {Kind: api.Let, Kids: 2, S: "y", T: "i"},
		{Kind: api.Fn, Kids: 1, S: "x"}, {Kind: api.Fn, Kids: 1, S: "y", T: "i", U: "i"},
		{Kind: api.Rec, Kids: 1, S: "x y", T: "i"}, {Kind: api.Rec, Kids: 1, S: "y y", U: "l?"}}
	for _, kind := range []int8{api.Neg, api.Size, api.First, api.Second, api.Head, api.Tail, api.Empty, api.Box, api.Get} {
		l = append(l, api.Node{Kind: kind, Kids: 1})
	}
	for _, kind := range []int8{api.Call, api.Add, api.Sub, api.Mul, api.Join, api.Eq, api.Less, api.Pair, api.Cons, api.Set} {
		l = append(l, api.Node{Kind: kind, Kids: 2})
	}
	return l
}

func TestEveryShortTree(t *testing.T) {
	m := newModel(consistent)
	taken, refused := 0, map[api.Errno]int{}
	envs := [][]bound{nil, {{"y", "b"}}}
	for _, x := range []string{"?", "i", "t", "b", ">i?", ">?t", ",it", "l?", "li", "x?", "xt"} {
		envs = append(envs, []bound{{"x", "b"}, {"y", "i"}, {"x", x}})
	}
	for nodes := 1; nodes <= 4; nodes++ {
		eachTree(someNodes(), nodes, func(l []api.Node) {
			for i, env := range envs {
				if nodes == 4 && i%3 != 2 { // some of them, for the time it takes
					continue
				}
				if v := wantAsModel(t, m, l, env); v.e == api.OK {
					taken++
				} else {
					refused[v.e]++
				}
			}
		})
	}
	t.Logf("%d trees taken, refused %v", taken, refused)
	if taken < 10000 || len(refused) != 4 {
		t.Errorf("too few kinds of trees: %d taken, refused %v", taken, refused)
	}
}
