package core_test

import (
	"fmt"
	"slices"
	"strconv"
	"strings"
	"testing"

	"culprit/api"
	"culprit/core"
)

// kindNames: the kinds by name, from 1 on.
func kindNames() []string {
	return strings.Fields("Num Str Truth Var Fn Rec Call Let If Add Sub Mul Join Eq Less Neg Size Pair First Second List Head Tail Empty Cons Box Get Set As Cast")
}

func kindOf(name string) int8 { return int8(slices.Index(kindNames(), name) + 1) }

// namedFields: of each kind the fields that the chapter's table names beside Kind and Kids, in the order in which the tests write them.
func namedFields(kind int8) string {
	switch kind {
	case api.Num, api.Truth, api.Var:
		return "N"
	case api.Str:
		return "S"
	case api.Fn, api.Rec:
		return "TU"
	case api.List:
		return "T"
	case api.Cast:
		return "TUN"
	}
	return ""
}

// reader reads terms as the chapter writes them: kind, its named fields, its kids in brackets. A _ stands for an empty text.
type reader struct {
	words []string
}

// term reads a term. Kids is what stands in the brackets, however many the table asks for.
func term(written string) []api.Node {
	apart := strings.NewReplacer("(", " ( ", ")", " ) ").Replace(written)
	r := reader{strings.Fields(apart)}
	l := r.part()
	if len(r.words) > 0 {
		panic("the tests' own term has too many words: " + written)
	}
	return l
}

func (r *reader) take() string {
	word := r.words[0]
	r.words = r.words[1:]
	if len(word) > 1 { // a type ends with no comma
		word = strings.TrimSuffix(word, ",")
	}
	return word
}

func (r *reader) part() []api.Node {
	n := api.Node{Kind: kindOf(r.take())}
	if n.Kind == 0 {
		panic("the tests' own term has a word that is no kind")
	}
	for _, field := range namedFields(n.Kind) {
		switch word := strings.Trim(r.take(), "_"); field {
		case 'N':
			n.N, _ = strconv.ParseInt(word, 10, 64)
		case 'S':
			n.S = word
		case 'T':
			n.T = word
		case 'U':
			n.U = word
		}
	}
	if len(r.words) == 0 || r.words[0] != "(" {
		return []api.Node{n}
	}
	var kids [][]api.Node
	for r.take(); r.words[0] != ")"; {
		if r.words[0] == "," {
			r.take()
			continue
		}
		kids = append(kids, r.part())
	}
	r.take()
	return node(n, kids...)
}

// node: a node, and the parts of its kids.
func node(n api.Node, kids ...[]api.Node) []api.Node {
	n.Kids = len(kids)
	return append([]api.Node{n}, slices.Concat(kids...)...)
}

func of(kind int8, kids ...[]api.Node) []api.Node { return node(api.Node{Kind: kind}, kids...) }

func num(n int64) []api.Node { return []api.Node{{Kind: api.Num, N: n}} }

func name(distance int64) []api.Node { return []api.Node{{Kind: api.Var, N: distance}} }

func cast(from, to string, label int64, kid []api.Node) []api.Node {
	return node(api.Node{Kind: api.Cast, T: from, U: to, N: label}, kid)
}

// witness: a closed term of a type, without a cast where nothing of it is unknown.
func witness(t string) []api.Node {
	var first, second string
	if len(t) > 1 {
		first, second = cut(t[1:])
	}
	switch t[0] {
	case 'i':
		return num(7)
	case 'b':
		return []api.Node{{Kind: api.Truth, N: 1}}
	case 't':
		return []api.Node{{Kind: api.Str, S: "a"}}
	case '?':
		return cast("i", "?", 9, num(7))
	case '>':
		return node(api.Node{Kind: api.Fn, T: first, U: second}, witness(second))
	case ',':
		return of(api.Pair, witness(first), witness(second))
	case 'l':
		return []api.Node{{Kind: api.List, T: first}}
	}
	return of(api.Box, witness(first))
}

// under: a term below Lets whose binders have these types, the nearest one first.
func under(nearest []string, body []api.Node) []api.Node {
	for _, t := range nearest {
		body = of(api.Let, witness(t), body)
	}
	return body
}

// long: a type of so many letters, none of them a ?.
func long(letters int) string { return strings.Repeat("l", letters-1) + "i" }

// shown writes a value so that a line of a test's report stays short.
func shown(v any) string {
	s := fmt.Sprintf("%+v", v)
	if len(s) > 500 {
		return s[:500] + " .."
	}
	return s
}

// told tells a list by its kinds, with what stands in them.
func told(l []api.Node) string {
	all := ""
	for _, n := range l {
		if 0 < n.Kind && int(n.Kind) <= len(kindNames()) {
			all += kindNames()[n.Kind-1]
		}
		all += fmt.Sprintf("%d/%d(%d|%q|%q|%q) ", n.Kind, n.Kids, n.N, n.S, n.T, n.U)
	}
	return shown(all)
}

// verdict: what is said of a list: a type, or an error with its node.
type verdict struct {
	t    string
	e    api.Errno
	node int
}

func given(l []api.Node) verdict {
	t, e, node := core.Check(l)
	return verdict{t, e, node}
}

func wantVerdict(t *testing.T, l []api.Node, want verdict) {
	t.Helper()
	if got := given(l); got != want {
		t.Errorf("P10.1: Check(%s) = %+v; want %+v", told(l), got, want)
	}
}

func wantType(t *testing.T, l []api.Node, want string) {
	t.Helper()
	wantVerdict(t, l, verdict{t: want})
}

func wantRefused(t *testing.T, l []api.Node, e api.Errno, node int) {
	t.Helper()
	wantVerdict(t, l, verdict{e: e, node: node})
}

// takes and refuses: the same of terms that are written.
func takes(t *testing.T, written, want string) {
	t.Helper()
	wantType(t, term(written), want)
}

func refuses(t *testing.T, written string, e api.Errno, node int) {
	t.Helper()
	wantRefused(t, term(written), e, node)
}
