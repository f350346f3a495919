package module_test

import (
	"fmt"
	"slices"
	"strconv"
	"strings"
	"testing"

	"culprit/api"
	"culprit/module"
	"culprit/parse"
)

// shown writes a value so that a line of a test's report stays short.
func shown(v any) string {
	s := fmt.Sprintf("%+v", v)
	if len(s) > 900 {
		return s[:900] + " .."
	}
	return s
}

// kindNames: the kinds by name, from 1 on.
func kindNames() []string {
	return strings.Fields("Num Str Truth Var Fn Rec Call Let If Add Sub Mul Join Eq Less Neg Size Pair First Second List Head Tail Empty Cons Box Get Set As Cast")
}

// marks: places of a source that a test names by numbers.
type marks map[api.Place]int

// marked takes the marks out of a source, @1, @2 and so on (one digit each), and answers where they stood.
func marked(src string) (string, marks) {
	all := marks{}
	plain, line, col := "", 1, 1
	for i := 0; i < len(src); i++ {
		switch {
		case src[i] == '@':
			i++
			all[api.Place{Line: line, Col: col}] = int(src[i] - '0')
			continue
		case src[i] == '\n':
			line, col = line+1, 1
		default:
			col++
		}
		plain += src[i : i+1]
	}
	return plain, all
}

// source reads modules, with marks in them.
func source(t *testing.T, src string) ([]api.Module, marks) {
	t.Helper()
	plain, all := marked(src)
	l, e, at := parse.Modules([]byte(plain))
	if e != api.OK {
		t.Fatalf("the test's source %q is refused: %d at %v", plain, e, at)
	}
	return l, all
}

// at tells a place by its mark, if it has one.
func (m marks) at(p api.Place) string {
	if number, ok := m[p]; ok {
		return "@" + strconv.Itoa(number)
	}
	return ""
}

// toldNode tells a node of a term by its kind and what stands in it.
func toldNode(n api.Node) string {
	word := "?"
	if 0 < n.Kind && int(n.Kind) <= len(kindNames()) {
		word = kindNames()[n.Kind-1]
	}
	number := strconv.FormatInt(n.N, 10)
	named := api.Node{Kind: n.Kind, Kids: n.Kids, At: n.At}
	switch n.Kind {
	case api.Cast:
		named.T, named.U, named.N = n.T, n.U, n.N
		word = "[" + n.T + " " + n.U + " " + number + "]"
	case api.Num, api.Truth, api.Var:
		named.N = n.N
		word += number
	case api.Str:
		named.S = n.S
		word += n.S
	case api.Fn, api.Rec:
		named.T, named.U = n.T, n.U
		word += "(" + n.T + "," + n.U + ")"
	case api.Let:
		named.T = n.T
		word += "(" + n.T + ")"
	case api.List:
		named.T = n.T
		word += strconv.Itoa(n.Kids) + "(" + n.T + ")"
	}
	if named != n { // what must be empty, or 0
		word += "!" + n.S + "|" + n.T + "|" + n.U + "|" + number
	}
	return word
}

func (m marks) told(term []api.Node) string {
	var all []string
	for _, n := range term {
		all = append(all, toldNode(n)+m.at(n.At))
	}
	return strings.Join(all, " ")
}

// toldSites tells of each site its module, behind a < the exporter, the rule, the mark of its place.
func (m marks) toldSites(sites []api.Site) string {
	var all []string
	for _, s := range sites {
		word := s.Module
		if s.Exporter != "" {
			word += "<" + s.Exporter
		}
		all = append(all, word+" "+strconv.Itoa(s.Rule)+m.at(s.At))
	}
	return strings.Join(all, ", ")
}

// answer: all that Link tells.
type answer struct {
	api.Program
	e  api.Errno
	at api.Site
}

func link(l []api.Module) answer {
	p, e, at := module.Link(l)
	return answer{p, e, at}
}

func (a answer) equals(b answer) bool {
	return slices.Equal(a.Term, b.Term) && a.Type == b.Type && slices.Equal(a.Sites, b.Sites) && a.e == b.e && a.at == b.at
}

func (a answer) String() string {
	return fmt.Sprintf("%s of %s, sites %+v, %d at %+v", marks{}.told(a.Term), a.Type, a.Sites, a.e, a.at)
}

// listed: all that Types tells.
type listed struct {
	names, types []string
	e            api.Errno
	at           api.Site
}

func typesOf(l []api.Module) listed {
	names, types, e, at := module.Types(l)
	return listed{names, types, e, at}
}

func (a listed) equals(b listed) bool {
	return slices.Equal(a.names, b.names) && slices.Equal(a.types, b.types) && a.e == b.e && a.at == b.at
}

// wantProgram: the term with the marks of its nodes, its type, the sites with theirs.
func wantProgram(t *testing.T, src, term, typ, sites string) {
	t.Helper()
	l, m := source(t, src)
	got := link(l)
	if m.told(got.Term) != term || got.Type != typ || m.toldSites(got.Sites) != sites || got.e != api.OK || got.at != (api.Site{}) {
		t.Errorf("P12.1: Link(%s) =\n%s of %s, sites %s, %d at %+v\nwant\n%s of %s, sites %s", src, m.told(got.Term), got.Type, m.toldSites(got.Sites), got.e, got.at, term, typ, sites)
		return
	}
	wantSound(t, l, got)
}

// wantRefused: the error, in this module at the mark 1, and nothing beside it, of Link and of Types.
func wantRefused(t *testing.T, src string, e api.Errno, in string) {
	t.Helper()
	l, m := source(t, src)
	got := link(l)
	if !got.equals(answer{e: e, at: got.at}) || got.at != (api.Site{Module: in, At: got.at.At}) || m[got.at.At] != 1 {
		t.Errorf("P12.1: Link(%s) = %s; want error %d in %s at the mark", src, shown(got), e, in)
	}
	if all := typesOf(l); !all.equals(listed{e: e, at: got.at}) {
		t.Errorf("P12.2: Types(%s) = %+v; want error %d in %s at the mark", src, all, e, in)
	}
}

// wantTypes: the defs' names and the types of their trees.
func wantTypes(t *testing.T, src, names, types string) {
	t.Helper()
	l, _ := source(t, src)
	if got := typesOf(l); !got.equals(listed{names: strings.Fields(names), types: strings.Fields(types)}) {
		t.Errorf("P12.2: Types(%s) = %+v; want %s of %s", src, got, names, types)
	}
}
