package parse_test

import (
	"fmt"
	"slices"
	"strings"
	"testing"

	"culprit/api"
	"culprit/parse"
	"culprit/tree"
)

func at(line, col int) api.Place { return api.Place{Line: line, Col: col} }

// dice deals numbers by a rule, so that each run of a test deals the same ones.
type dice uint64

func (d *dice) below(n int) int {
	*d = *d*6364136223846793005 + 1442695040888963407
	return int(uint64(*d) >> 33 % uint64(n))
}

func (d *dice) one(texts ...string) string { return texts[d.below(len(texts))] }

// shown writes a value so that a line of a test's report stays short.
func shown(v any) string {
	s := fmt.Sprint(v)
	if _, ok := v.(string); ok {
		s = fmt.Sprintf("%q", v)
	}
	if len(s) > 400 {
		return s[:400] + " .."
	}
	return s
}

// placed answers what a call would tell of a source at one of its bytes.
func placed(src string, offset int) api.Place {
	ahead := src[:offset]
	return at(1+strings.Count(ahead, "\n"), 1+len(ahead)-(strings.LastIndexByte(ahead, '\n')+1))
}

// face is one of the calls, its answer left aside.
type face struct {
	name string
	row  string // of the grammar
	call func(src string) (answer int, e api.Errno, at api.Place)
}

func faces() []face {
	return []face{
		{"Modules", "modules", func(src string) (int, api.Errno, api.Place) {
			l, e, at := parse.Modules([]byte(src))
			return len(l), e, at
		}},
		{"Expr", "expr", func(src string) (int, api.Errno, api.Place) {
			l, e, at := parse.Expr([]byte(src))
			return len(l), e, at
		}},
		{"Type", "type", func(src string) (int, api.Errno, api.Place) {
			s, e, at := parse.Type([]byte(src))
			return len(s), e, at
		}},
	}
}

// wantRefused: the fault, its place, and nothing beside them.
func (f face) wantRefused(t *testing.T, src string, e api.Errno, place api.Place) {
	t.Helper()
	if answer, gotE, gotPlace := f.call(src); answer != 0 || gotE != e || gotPlace != place {
		t.Errorf("%s(%s) answers %d, error %d at %v; want error %d at %v", f.name, shown(src), answer, gotE, gotPlace, e, place)
	}
}

func (f face) wantTaken(t *testing.T, src string) {
	t.Helper()
	if _, e, place := f.call(src); e != api.OK || place != (api.Place{}) {
		t.Errorf("%s(%s): error %d at %v", f.name, shown(src), e, place)
	}
}

func modulesFace() face { return faces()[0] }
func exprFace() face    { return faces()[1] }
func typeFace() face    { return faces()[2] }

func wantExpr(t *testing.T, src string, want ...api.Node) {
	t.Helper()
	l, e, place := parse.Expr([]byte(src))
	if e != api.OK || place != (api.Place{}) || !slices.Equal(l, want) {
		t.Errorf("P6.2: Expr(%s) = %s, %d, %v; want %s", shown(src), shown(l), e, place, shown(want))
	}
}

func wantType(t *testing.T, src, want string) {
	t.Helper()
	if s, e, place := parse.Type([]byte(src)); s != want || e != api.OK || place != (api.Place{}) {
		t.Errorf("P6.2: Type(%s) = %s, %d, %v; want %s", shown(src), shown(s), e, place, shown(want))
	}
}

func wantModules(t *testing.T, src string, want ...api.Module) {
	t.Helper()
	l, e, place := parse.Modules([]byte(src))
	if e != api.OK || place != (api.Place{}) || !slices.EqualFunc(l, want, sameModule) {
		t.Errorf("P6.1: Modules(%s) = %s, %d, %v; want %s", shown(src), shown(l), e, place, shown(want))
	}
}

func sameModule(a, b api.Module) bool {
	return a.Name == b.Name && a.At == b.At && slices.Equal(a.Imports, b.Imports) && slices.EqualFunc(a.Defs, b.Defs, sameDef)
}

func sameDef(a, b api.Def) bool {
	return a.Name == b.Name && a.Export == b.Export && a.T == b.T && a.At == b.At && slices.Equal(a.Tree, b.Tree)
}

// withoutPlaces answers modules that tell no places.
func withoutPlaces(l []api.Module) []api.Module {
	var bare []api.Module
	for _, m := range l {
		b := api.Module{Name: m.Name}
		for _, i := range m.Imports {
			i.At = api.Place{}
			b.Imports = append(b.Imports, i)
		}
		for _, d := range m.Defs {
			d.At, d.Tree = api.Place{}, bareTree(d.Tree)
			b.Defs = append(b.Defs, d)
		}
		bare = append(bare, b)
	}
	return bare
}

func bareTree(l []api.Node) []api.Node {
	l = slices.Clone(l)
	for i := range l {
		l[i].At = api.Place{}
	}
	return l
}

// kindNames: the kinds by name, from 1 on.
func kindNames() []string {
	return strings.Fields("Num Str Truth Var Fn Rec Call Let If Add Sub Mul Join Eq Less Neg Size Pair First Second List Head Tail Empty Cons Box Get Set As")
}

// told writes a tree as its kinds with brackets around the kids, and what stands in a node behind its kind.
func told(l []api.Node) string {
	if len(l) == 0 {
		return ""
	}
	var at func(i int) string
	at = func(i int) string {
		n := l[i]
		s := kindNames()[n.Kind-1]
		switch n.Kind {
		case api.Num, api.Truth:
			s = fmt.Sprint(s, " ", n.N)
		case api.Str, api.Var:
			s += " " + n.S
		case api.Fn, api.Rec:
			s += fmt.Sprintf(" %s/%s/%s", n.S, n.T, n.U)
		case api.Let:
			s += fmt.Sprintf(" %s/%s", n.S, n.T)
		case api.As:
			s += " " + n.T
		}
		var kids []string
		for _, kid := range tree.Kids(l, i) {
			kids = append(kids, at(kid))
		}
		if len(kids) > 0 || n.Kind == api.List {
			s += "(" + strings.Join(kids, ", ") + ")"
		}
		return s
	}
	return at(0)
}
