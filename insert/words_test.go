package insert_test

import (
	"fmt"
	"slices"
	"strconv"
	"strings"
	"testing"

	"culprit/api"
	"culprit/insert"
	"culprit/parse"
)

// shown writes a value so that a line of a test's report stays short.
func shown(v any) string {
	s := fmt.Sprintf("%+v", v)
	if len(s) > 600 {
		return s[:600] + " .."
	}
	return s
}

// kindNames: the kinds by name, from 1 on.
func kindNames() []string {
	return strings.Fields("Num Str Truth Var Fn Rec Call Let If Add Sub Mul Join Eq Less Neg Size Pair First Second List Head Tail Empty Cons Box Get Set As Cast")
}

// placeOf: the tests give each node of a tree a place of its own, by its number.
func placeOf(node int) api.Place { return api.Place{Line: 1 + node, Col: 100000 - node} }

func placed(l []api.Node) []api.Node {
	l = slices.Clone(l)
	for i := range l {
		l[i].At = placeOf(i)
	}
	return l
}

// source reads an expression; its nodes have the places of the tests.
func source(t *testing.T, src string) []api.Node {
	t.Helper()
	l, e, at := parse.Expr([]byte(src))
	if e != api.OK {
		t.Fatalf("the test's source %q is refused: %d at %v", src, e, at)
	}
	return placed(l)
}

// bound: a name with its type, of an environment.
type bound struct {
	name, t string
}

// environment reads one that is written as names, each with its type behind it.
func environment(written string) []bound {
	var env []bound
	words := strings.Fields(written)
	for i := 0; i < len(words); i += 2 {
		env = append(env, bound{words[i], words[i+1]})
	}
	return env
}

func apart(env []bound) (names, types []string) {
	for _, b := range env {
		names, types = append(names, b.name), append(types, b.t)
	}
	return names, types
}

// answer: all that Expr tells.
type answer struct {
	term  []api.Node
	t     string
	sites []api.Site
	e     api.Errno
	node  int
}

func given(module string, l []api.Node, env []bound) answer {
	names, types := apart(env)
	term, t, sites, e, node := insert.Expr(module, l, names, types)
	return answer{term, t, sites, e, node}
}

func (a answer) equals(b answer) bool {
	return slices.Equal(a.term, b.term) && a.t == b.t && slices.Equal(a.sites, b.sites) && a.e == b.e && a.node == b.node
}

func (a answer) String() string {
	return fmt.Sprintf("%s of %s, sites %s, %d at %d", told(a.term), a.t, toldSites(a.sites), a.e, a.node)
}

// toldNode tells a node of a tree or a term by its kind and what stands in it.
func toldNode(n api.Node) string {
	word := "?"
	if 0 < n.Kind && int(n.Kind) <= len(kindNames()) {
		word = kindNames()[n.Kind-1]
	}
	number := strconv.FormatInt(n.N, 10)
	named := api.Node{Kind: n.Kind, Kids: n.Kids, At: n.At}
	switch n.Kind {
	case api.Cast:
		named.T, named.U, named.N = n.T, n.U, n.N
		word = "[" + n.T + " " + n.U + " " + number + "]"
	case api.Num, api.Truth, api.Var:
		named.N = n.N
		word += number
	case api.Str:
		named.S = n.S
		word += n.S
	case api.Fn, api.Rec:
		named.T, named.U = n.T, n.U
		word += "(" + n.T + "," + n.U + ")"
	case api.Let:
		named.T = n.T
		word += "(" + n.T + ")"
	case api.List:
		named.T = n.T
		word += strconv.Itoa(n.Kids) + "(" + n.T + ")"
	}
	if named != n { // what must be empty, or 0
		word += "!" + n.S + "|" + n.T + "|" + n.U + "|" + number
	}
	return word
}

func told(l []api.Node) string {
	var all []string
	for _, n := range l {
		all = append(all, toldNode(n))
	}
	return strings.Join(all, " ")
}

// toldSites tells of each site its rule and the node that has its place.
func toldSites(sites []api.Site) string {
	var all []string
	for _, s := range sites {
		word := strconv.Itoa(s.Rule) + "@" + strconv.Itoa(s.At.Line-1)
		if s.At != placeOf(s.At.Line-1) {
			word = fmt.Sprintf("%d@%+v", s.Rule, s.At)
		}
		all = append(all, word)
	}
	return strings.Join(all, " ")
}

// wantTree: the term, its type, and of each site the rule and the node that has its place.
func wantTree(t *testing.T, l []api.Node, env, term, typ, sites string) {
	t.Helper()
	got := given("m", l, environment(env))
	if told(got.term) != term || got.t != typ || toldSites(got.sites) != sites || got.e != api.OK || got.node != 0 {
		t.Errorf("P11.1: Expr(%s) in %q = %s\nwant %s of %s, sites %s", shown(told(l)), shown(env), shown(got), term, typ, sites)
		return
	}
	wantSound(t, "m", l, environment(env), got)
}

func wantTerm(t *testing.T, src, env, term, typ, sites string) {
	t.Helper()
	wantTree(t, source(t, src), env, term, typ, sites)
}

// wantRefused: the error and its node, and nothing beside them.
func wantRefused(t *testing.T, module string, l []api.Node, env []bound, e api.Errno, node int) {
	t.Helper()
	got := given(module, l, env)
	if !got.equals(answer{e: e, node: node}) {
		t.Errorf("P11.1: Expr(%q, %s) in %s = %s; want error %d at %d", module, shown(told(l)), shown(env), shown(got), e, node)
	}
}

// long: a type of so many letters, none of them a ?.
func long(letters int) string { return strings.Repeat("l", letters-1) + "i" }

// num and name: nodes without kids.
func num(n int64) api.Node { return api.Node{Kind: api.Num, N: n} }

func name(s string) api.Node { return api.Node{Kind: api.Var, S: s} }

// tree: a node, and the parts of its kids.
func tree(n api.Node, parts ...[]api.Node) []api.Node {
	n.Kids = len(parts)
	return append([]api.Node{n}, slices.Concat(parts...)...)
}

func of(kind int8, parts ...[]api.Node) []api.Node { return tree(api.Node{Kind: kind}, parts...) }
