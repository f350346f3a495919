package module_test

import (
	"slices"
	"strings"
	"testing"

	"culprit/api"
	"culprit/check"
	"culprit/insert"
	"culprit/tree"
)

// cut takes the type apart at which a text begins.
func cut(t string) (one, rest string) {
	end := 1
	for range strings.Count("lx", t[:1]) + 2*strings.Count(">,", t[:1]) {
		part, _ := cut(t[end:])
		end += len(part)
	}
	return t[:end], t[end:]
}

// together reads a type at the beginning of each of two texts: are they consistent, what is their meet, and what stands behind them.
func together(s, t string) (both, restS, restT string, ok bool) {
	switch {
	case s[0] == '?':
		both, restT = cut(t)
		return both, s[1:], restT, true
	case t[0] == '?':
		both, restS = cut(s)
		return both, restS, t[1:], true
	case s[0] != t[0]:
		return "", "", "", false
	}
	both, restS, restT = s[:1], s[1:], t[1:]
	for range strings.Count("lx", both) + 2*strings.Count(">,", both) {
		var part string
		if part, restS, restT, ok = together(restS, restT); !ok {
			return "", "", "", false
		}
		both += part
	}
	return both, restS, restT, true
}

func consistent(s, t string) bool {
	_, _, _, ok := together(s, t)
	return ok
}

// atLeast: is s at least as precise as t? Then it is what the two know between them.
func atLeast(s, t string) bool {
	both, _, _, ok := together(s, t)
	return ok && both == s
}

// thing: an import or a def, in a program's order: what it is called in which module, its type, what it is bound to.
type thing struct {
	module, name, t string
	at              api.Place
	from            int // of an import the number of the exporter's def
	exporter        string
	tree            []api.Node // of a def
	own             string     // the type of what it is bound to
	export          bool
}

// model follows the chapter's words: first the rules, which gather all things in a list; then the program, of that list.
type model struct {
	all []thing
}

func newModel() *model { return &model{} }

// find answers the number of the first thing of a module that has this name, below 0: there is none.
func (m *model) find(module, name string) int {
	return slices.IndexFunc(m.all, func(b thing) bool { return b.module == module && b.name == name })
}

// environment of a module: its things so far.
func (m *model) environment(module string) (names, types []string) {
	for _, b := range m.all {
		if b.module == module {
			names, types = append(names, b.name), append(types, b.t)
		}
	}
	return names, types
}

// rules tells the first rule that is broken, and where.
func (m *model) rules(l []api.Module) (api.Errno, api.Site) {
	m.all = nil
	for i, mod := range l {
		for _, other := range l[:i] {
			if other.Name == mod.Name {
				return api.ErrTwice, api.Site{Module: mod.Name, At: mod.At}
			}
		}
		for _, x := range mod.Imports {
			if e := m.importRule(mod.Name, x); e != api.OK {
				return e, api.Site{Module: mod.Name, At: x.At}
			}
		}
		for _, d := range mod.Defs {
			if e, at := m.defRule(mod.Name, d); e != api.OK {
				return e, api.Site{Module: mod.Name, At: at}
			}
		}
	}
	return api.OK, api.Site{}
}

func (m *model) importRule(in string, x api.Import) api.Errno {
	b := thing{module: in, name: x.Name, t: written(x.T), at: x.At, exporter: x.From}
	if m.find(in, x.Name) >= 0 {
		return api.ErrTwice
	}
	if b.from = m.find(x.From, x.Name); x.From == in || b.from < 0 || !m.all[b.from].export {
		return api.ErrImport
	}
	if b.own = m.all[b.from].t; !consistent(b.own, b.t) {
		return api.ErrType
	}
	m.all = append(m.all, b)
	return api.OK
}

func (m *model) defRule(in string, d api.Def) (api.Errno, api.Place) {
	b := thing{module: in, name: d.Name, t: written(d.T), at: d.At, tree: d.Tree, export: d.Export}
	if m.find(in, d.Name) >= 0 {
		return api.ErrTwice, d.At
	}
	names, types := m.environment(in)
	all, e, node := check.Expr(d.Tree, names, types)
	if e != api.OK {
		return e, d.Tree[node].At
	}
	if b.own = all[0]; !consistent(b.own, b.t) {
		return api.ErrType, d.Tree[0].At
	}
	m.all = append(m.all, b)
	return api.OK, api.Place{}
}

// answer tells what the chapter says of modules.
func (m *model) answer(l []api.Module) (answer, listed) {
	if e := tree.Modules(l); e != api.OK {
		return answer{e: e}, listed{e: e}
	}
	if e, at := m.rules(l); e != api.OK {
		return answer{e: e, at: at}, listed{e: e, at: at}
	}
	var names, types []string
	for _, b := range m.all {
		if b.tree != nil {
			names, types = append(names, b.module+"."+b.name), append(types, b.own)
		}
	}
	told := listed{names: names, types: types}
	if len(l) == 0 || len(l[len(l)-1].Defs) == 0 {
		return answer{e: api.ErrEmpty}, told
	}
	last := m.all[len(m.all)-1]
	term, sites := m.part(0, 0)
	return answer{Program: api.Program{Term: term, Type: last.t, Sites: sites}}, told
}

// part tells the term from the thing of this number on, and the sites of its labels, below which others are given already.
func (m *model) part(number, given int) ([]api.Node, []api.Site) {
	if number == len(m.all) {
		return []api.Node{{Kind: api.Var, At: m.all[number-1].at}}, nil
	}
	b := m.all[number]
	var kid []api.Node
	var sites []api.Site
	border := api.Site{Module: b.module, Exporter: b.exporter, At: b.at, Rule: 18}
	if b.tree != nil {
		border = api.Site{Module: b.module, At: b.tree[0].At, Rule: 17}
		kid, sites = m.tree(number, given)
	} else {
		between := m.all[b.from+1 : number]
		kid = []api.Node{{Kind: api.Var, N: int64(len(between)), At: b.at}}
	}
	if b.own != b.t {
		sites = append(sites, border)
		cast := api.Node{Kind: api.Cast, Kids: 1, T: b.own, U: b.t, N: int64(given + len(sites)), At: border.At}
		kid = append([]api.Node{cast}, kid...)
	}
	inner, more := m.part(number+1, given+len(sites))
	let := []api.Node{{Kind: api.Let, Kids: 2, T: b.t, At: b.at}}
	return slices.Concat(let, kid, inner), slices.Concat(sites, more)
}

// tree tells the term of a def's tree, whose labels stand behind those that are given, and its sites.
func (m *model) tree(number, given int) ([]api.Node, []api.Site) {
	b := m.all[number]
	before := model{all: m.all[:number]}
	names, types := before.environment(b.module)
	term, _, sites, _, _ := insert.Expr(b.module, b.tree, names, types)
	for i, n := range term {
		if n.Kind == api.Cast {
			term[i].N = n.N + int64(given)
		}
	}
	return term, sites
}

// wantAsModel holds the program against the model, and answers what both say.
func wantAsModel(t *testing.T, m *model, l []api.Module) answer {
	t.Helper()
	want, told := m.answer(l)
	got := link(l)
	if !got.equals(want) {
		t.Fatalf("P12.1: Link(%s) = %s\nwant %s", shown(l), shown(got), shown(want))
	}
	if types := typesOf(l); !types.equals(told) {
		t.Fatalf("P12.2: Types(%s) = %+v\nwant %+v", shown(l), types, told)
	}
	return got
}

// someImports and someDefs: what short programs are made of.
func someImports() []api.Import {
	var all []api.Import
	for _, from := range []string{"a", "b"} {
		for _, named := range []string{"x", "y"} {
			for _, t := range []string{"", "i", "t"} {
				all = append(all, api.Import{From: from, Name: named, T: t})
			}
		}
	}
	return all
}

func someDefs() []api.Def {
	var all []api.Def
	for _, named := range []string{"x", "y"} {
		for _, t := range []string{"", "i", "t"} {
			for _, l := range [][]api.Node{{num(1)}, {name("x")}, {name("y")}, {{Kind: api.Str, S: "s"}}} {
				for _, export := range []bool{true, false} {
					all = append(all, api.Def{Name: named, T: t, Tree: l, Export: export})
				}
			}
		}
	}
	return all
}

// eachProgram visits all programs of so many things (at most) in modules of these names: a module begins, or an import or a def is put to the one that began last.
func eachProgram(names []string, things int, visit func(l []api.Module)) {
	imports, defs := someImports(), someDefs()
	var from func(l []api.Module, rest []string, left int)
	from = func(l []api.Module, rest []string, left int) {
		visit(l)
		if len(rest) > 0 {
			from(append(slices.Clone(l), api.Module{Name: rest[0]}), rest[1:], left)
		}
		if len(l) == 0 || left == 0 {
			return
		}
		last := len(l) - 1
		with := func(m api.Module) []api.Module { return append(slices.Clone(l[:last]), m) }
		if len(l[last].Defs) == 0 {
			for _, x := range imports {
				m := l[last]
				m.Imports = append(slices.Clone(m.Imports), x)
				from(with(m), rest, left-1)
			}
		}
		for _, d := range defs {
			m := l[last]
			m.Defs = append(slices.Clone(m.Defs), d)
			from(with(m), rest, left-1)
		}
	}
	from(nil, names, things)
}

// All programs of at most two things, and one in fifteen of those of three, for the time it takes.
func TestShortPrograms(t *testing.T) {
	m := newModel()
	kinds := map[api.Errno]int{}
	for _, c := range []struct {
		names  string
		things int
	}{{"a", 2}, {"a b", 3}, {"b a", 2}, {"a a", 1}, {"a b a", 1}, {"a b c", 2}} {
		turn := 0
		eachProgram(strings.Fields(c.names), c.things, func(l []api.Module) {
			if turn++; lets(l) == 3 && turn%15 > 0 {
				return
			}
			l = placed(l)
			a := wantAsModel(t, m, l)
			kinds[a.e]++
			if a.e == api.OK && turn%3 == 0 {
				wantSound(t, l, a)
			}
		})
	}
	t.Logf("%v", kinds)
	for _, e := range []api.Errno{api.OK, api.ErrTwice, api.ErrImport, api.ErrType, api.ErrUnbound, api.ErrEmpty} {
		if kinds[e] < 20 {
			t.Errorf("too few programs: %v", kinds)
		}
	}
}
