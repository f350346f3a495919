package print_test

import (
	"fmt"
	"slices"
	"strconv"
	"strings"
	"testing"

	"culprit/api"
	tested "culprit/print"
	"culprit/text"
	"culprit/tree"
	"culprit/types"
)

// shown writes a value so that a line of a test's report stays short.
func shown(v any) string {
	s := fmt.Sprintf("%+v", v)
	if len(s) > 400 {
		return s[:400] + " .."
	}
	return s
}

// kindNames: the kinds by name, from 1 on.
func kindNames() []string {
	return strings.Fields("Num Str Truth Var Fn Rec Call Let If Add Sub Mul Join Eq Less Neg Size Pair First Second List Head Tail Empty Cons Box Get Set As")
}

// of makes a tree of the kinds in which the chapter's examples tell it: a kind, with what stands in it in brackets (S|T|U, a / for a blank of S; of a List the number of its elements), a number, a name, true, false, a text of one word in quotes.
func of(words string) []api.Node {
	var l []api.Node
	for _, w := range strings.Fields(words) {
		l = append(l, nodeOf(w))
	}
	return l
}

func nodeOf(word string) api.Node {
	switch first := word[0]; {
	case '0' <= first && first <= '9':
		n, _ := strconv.ParseInt(word, 10, 64)
		return api.Node{Kind: api.Num, N: n}
	case first == '"':
		return api.Node{Kind: api.Str, S: strings.Trim(word, `"`)}
	case word == "true":
		return api.Node{Kind: api.Truth, N: 1}
	case word == "false":
		return api.Node{Kind: api.Truth}
	case 'a' <= first && first <= 'z':
		return api.Node{Kind: api.Var, S: word}
	}
	kind, inside, _ := strings.Cut(strings.TrimSuffix(word, ")"), "(")
	n := api.Node{Kind: int8(slices.Index(kindNames(), kind) + 1)}
	n.Kids, _ = tree.Arity(n.Kind)
	fields := append(strings.Split(inside, "|"), "", "")
	switch n.Kind {
	case api.List:
		n.Kids, _ = strconv.Atoi(inside)
	case api.As:
		n.T = inside
	default:
		n.S, n.T, n.U = strings.ReplaceAll(fields[0], "/", " "), fields[1], fields[2]
	}
	return n
}

func wantExpr(t *testing.T, l []api.Node, want string) {
	t.Helper()
	if got, e := tested.Expr(l); got != want || e != api.OK {
		t.Errorf("P7.1: Expr(%s) = %q, %d; want %q", shown(l), shown(got), e, shown(want))
	}
}

func wantRefused(t *testing.T, l []api.Node, want api.Errno) {
	t.Helper()
	if got, e := tested.Expr(l); got != "" || e != want {
		t.Errorf("P7.1: Expr(%s) = %q, %d; want error %d", shown(l), shown(got), e, want)
	}
}

func wantModules(t *testing.T, l []api.Module, lines ...string) {
	t.Helper()
	want := ""
	for _, line := range lines {
		want += line + "\n"
	}
	if got, e := tested.Modules(l); got != want || e != api.OK {
		t.Errorf("P7.2: Modules(%s) = %q, %d; want %q", shown(l), shown(got), e, shown(want))
	}
}

func wantNoModules(t *testing.T, l []api.Module, want api.Errno) {
	t.Helper()
	if got, e := tested.Modules(l); got != "" || e != want {
		t.Errorf("P7.2: Modules(%s) = %q, %d; want error %d", shown(l), shown(got), e, want)
	}
}

// The chapter's table, row by row: a kind, its rank, its text. A digit is a kid and the rank that it is asked for, ~ stands for all elements of a list.
const tableText = `
Num 6 {digits}
Str 6 {quoted}
Truth 6 {truth}
Var 6 {name}
Fn 0 fn ({name} : T) : U => 0
Rec 0 rec {own} ({name} : T) : U => 0
Let 0 let {name} : T = 0 in 0
If 0 if 0 then 0 else 0
Set 0 1 := 0
Eq 1 2 == 2
Less 1 2 < 2
Add 2 2 + 3
Sub 2 2 - 3
Join 2 2 ++ 3
Mul 3 3 * 4
Neg 4 -4
Get 4 !4
Call 5 5(0)
Pair 6 (0, 0)
As 6 (0 : T)
List 6 [~]
Box 6 box(0)
Size 6 size(0)
First 6 first(0)
Second 6 second(0)
Head 6 head(0)
Tail 6 tail(0)
Empty 6 empty(0)
Cons 6 cons(0, 0)
`

// row of the table: its rank, and its text.
type row struct {
	rank int
	text string
}

// table: the rows by kinds.
type table map[int8]row

func theTable() table {
	rows := table{}
	for _, line := range strings.Split(strings.TrimSpace(tableText), "\n") {
		parts := strings.SplitN(line, " ", 3)
		rank, _ := strconv.Atoi(parts[1])
		rows[int8(slices.Index(kindNames(), parts[0])+1)] = row{rank, parts[2]}
	}
	return rows
}

// write follows the table; more tells of each part whether it stands in brackets beyond those that are asked for.
func (rows table) write(l []api.Node, more func() bool) string {
	var part func(at, asked int) string
	part = func(at, asked int) string {
		r := rows[l[at].Kind]
		words := fields(l[at]).Replace(r.text)
		if l[at].Kids > 0 || l[at].Kind == api.List {
			words = withKids(r.text, tree.Kids(l, at), fields(l[at]), part)
		}
		if r.rank < asked {
			words = "(" + words + ")"
		}
		if more() {
			words = "( " + words + "\n)"
		}
		return words
	}
	return part(0, 0)
}

// withKids fills a row's text: kids for its digits, and what stands in the node.
func withKids(row string, kids []int, said *strings.Replacer, part func(at, asked int) string) string {
	var all, plain strings.Builder
	put := func(text string) {
		said.WriteString(&all, plain.String())
		plain.Reset()
		all.WriteString(text)
	}
	for _, r := range row {
		switch {
		case '0' <= r && r <= '6':
			put(part(kids[0], int(r-'0')))
			kids = kids[1:]
		case r == '~':
			var elements []string
			for _, kid := range kids {
				elements = append(elements, part(kid, 0))
			}
			put(strings.Join(elements, ", "))
		default:
			plain.WriteRune(r)
		}
	}
	put("")
	return all.String()
}

// fields answers what a node lays into its row.
func fields(n api.Node) *strings.Replacer {
	quoted, _ := text.Quote(n.S)
	own, name, two := strings.Cut(n.S, " ")
	if !two {
		name = n.S
	}
	t, u := "", ""
	if n.T != "" {
		t, _ = types.Words(n.T)
		t = " : " + t
	}
	if n.U != "" {
		u, _ = types.Words(n.U)
		u = " : " + u
	}
	return strings.NewReplacer("{digits}", strconv.FormatInt(n.N, 10), "{quoted}", quoted, "{truth}", strconv.FormatBool(n.N == 1), "{own}", own, "{name}", name, " : T", t, " : U", u)
}

func never() bool { return false }

func TestTheTableIsRead(t *testing.T) {
	rows := theTable()
	if len(rows) != len(kindNames()) {
		t.Fatalf("the tests misread the table: %v", rows)
	}
	for kind, r := range rows {
		digits := 0
		for _, r := range r.text {
			if '0' <= r && r <= '6' {
				digits++
			}
		}
		if kids, _ := tree.Arity(kind); r.text == "" || digits != kids {
			t.Errorf("the tests misread the row of kind %d: %v", kind, r)
		}
	}
}
