package module

import (
	"slices"

	"culprit/api"
	"culprit/insert"
	"culprit/relate"
	"culprit/tree"
)

// export: what an import asks for.
type export struct {
	module, name string
}

// exported: the def that an export is: the number of its Let, and its type.
type exported struct {
	let int
	t   string
}

// program: what the modules so far have become.
type program struct {
	exports map[export]exported // which export a name means
	term    []api.Node          // a Let for each import and def, the last one without its second kid: what follows stands there
	lets    int
	sites   []api.Site
	names   []string // of the defs, with their modules
	own     []string // the types that the defs' trees have by themselves
}

// wrong: what is thrown where a rule is broken.
type wrong struct {
	e  api.Errno
	at api.Site
}

// linked goes over modules by the rules; what is wrong is thrown from within, and caught here.
func linked(l []api.Module) (p program, e api.Errno, at api.Site) {
	if e = tree.Modules(l); e != api.OK {
		return program{}, e, api.Site{}
	}
	defer func() {
		if thrown := recover(); thrown != nil {
			w := thrown.(wrong)
			p, e, at = program{}, w.e, w.at
		}
	}()
	p.exports = map[export]exported{}
	for i, m := range l {
		p.module(m, l[:i])
	}
	return p, api.OK, api.Site{}
}

// module lays the Lets of a module behind those of the modules ahead of it.
func (p *program) module(m api.Module, ahead []api.Module) {
	s := scope{module: m.Name}
	if slices.ContainsFunc(ahead, func(other api.Module) bool { return other.Name == m.Name }) {
		s.refuse(api.ErrTwice, m.At)
	}
	for _, wanted := range m.Imports {
		p.border(wanted, &s)
	}
	for _, d := range m.Defs {
		p.def(d, &s)
	}
}

// border lays the Let of an import: it binds the exporter's def, as the importer sees it.
func (p *program) border(wanted api.Import, s *scope) {
	s.fresh(wanted.Name, wanted.At)
	from, ok := p.exports[export{wanted.From, wanted.Name}]
	if !ok {
		s.refuse(api.ErrImport, wanted.At)
	}
	to := written(wanted.T)
	if !relate.Consistent(from.t, to) {
		s.refuse(api.ErrType, wanted.At)
	}
	between := p.lets - 1 - from.let
	p.let(to, wanted.At)
	p.cast(from.t, to, api.Site{Module: s.module, Exporter: wanted.From, At: wanted.At, Rule: importRule})
	p.term = append(p.term, api.Node{Kind: api.Var, N: int64(between), At: wanted.At})
	s.bind(wanted.Name, to)
}

// def lays the Let of a def. The nearest Lets around its tree are those of the names that it sees, in their order: so the distances in the tree's term hold in the program's.
func (p *program) def(d api.Def, s *scope) {
	s.fresh(d.Name, d.At)
	term, from, sites, e, node := insert.Expr(s.module, d.Tree, s.names, s.types)
	if e != api.OK {
		s.refuse(e, d.Tree[node].At)
	}
	first, to := d.Tree[0].At, written(d.T)
	if !relate.Consistent(from, to) {
		s.refuse(api.ErrType, first)
	}
	if d.Export {
		p.exports[export{s.module, d.Name}] = exported{p.lets, to}
	}
	p.names, p.own = append(p.names, s.module+"."+d.Name), append(p.own, from)
	p.let(to, d.At)
	p.relabel(term, sites)
	p.cast(from, to, api.Site{Module: s.module, At: first, Rule: defRule})
	p.term = append(p.term, term...)
	s.bind(d.Name, to)
}
