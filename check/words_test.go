package check_test

import (
	"fmt"
	"slices"
	"strings"
	"testing"

	"culprit/api"
	tested "culprit/check"
	"culprit/parse"
)

// shown writes a value so that a line of a test's report stays short.
func shown(v any) string {
	s := fmt.Sprintf("%+v", v)
	if len(s) > 500 {
		return s[:500] + " .."
	}
	return s
}

// source reads an expression; the chapter's examples are told as such.
func source(t *testing.T, src string) []api.Node {
	t.Helper()
	l, e, at := parse.Expr([]byte(src))
	if e != api.OK {
		t.Fatalf("the test's source %q is refused: %d at %v", src, e, at)
	}
	return l
}

// named takes apart an environment that is written as names, each with its type behind it.
func named(env string) (names, types []string) {
	for i, word := range strings.Fields(env) {
		if i%2 == 0 {
			names = append(names, word)
		} else {
			types = append(types, word)
		}
	}
	return names, types
}

func wantTree(t *testing.T, l []api.Node, env, want string) {
	t.Helper()
	names, types := named(env)
	got, e, at := tested.Expr(l, names, types)
	if !slices.Equal(got, strings.Fields(want)) || e != api.OK || at != 0 {
		t.Errorf("P8.1: Expr(%s) in %q = %s, %d, %d; want %s", shown(l), shown(env), shown(got), e, at, shown(want))
	}
}

func wantTreeRefused(t *testing.T, l []api.Node, env string, want api.Errno, wantAt int) {
	t.Helper()
	names, types := named(env)
	got, e, at := tested.Expr(l, names, types)
	if len(got) != 0 || e != want || at != wantAt {
		t.Errorf("P8.1: Expr(%s) in %q = %s, %d, %d; want error %d at %d", shown(l), shown(env), shown(got), e, at, want, wantAt)
	}
}

func wantTypes(t *testing.T, src, env, want string) {
	t.Helper()
	wantTree(t, source(t, src), env, want)
}

func wantRefused(t *testing.T, src, env string, want api.Errno, at int) {
	t.Helper()
	wantTreeRefused(t, source(t, src), env, want, at)
}

// long: a type of so many letters, none of them a ?.
func long(letters int) string { return strings.Repeat("l", letters-1) + "i" }

// num and name: nodes without kids.
func num(n int64) api.Node { return api.Node{Kind: api.Num, N: n} }

func name(s string) api.Node { return api.Node{Kind: api.Var, S: s} }

// tree: a node, and the parts of its kids.
func tree(n api.Node, parts ...[]api.Node) []api.Node {
	n.Kids = len(parts)
	return append([]api.Node{n}, slices.Concat(parts...)...)
}
