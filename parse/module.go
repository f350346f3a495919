package parse

import "culprit/api"

func (p *parser) modules() []api.Module {
	var l []api.Module
	for p.sign() == "module" {
		m := p.module()
		l = append(l, m)
		if len(l) > api.MaxModules {
			p.pass(manyModules, m.At)
		}
	}
	return l
}

func (p *parser) module() api.Module {
	p.expect("module")
	name := p.name()
	m := api.Module{Name: name.S, At: name.At}
	p.expect("{")
	for p.sign() == "import" {
		i := p.importing()
		m.Imports = append(m.Imports, i)
		p.weigh(m, i.At)
	}
	for p.sign() == "export" || p.sign() == "let" {
		d := p.def()
		m.Defs = append(m.Defs, d)
		p.weigh(m, d.At)
	}
	p.expect("}")
	return m
}

// weigh holds a module against its limit; at is the place of what it got last.
func (p *parser) weigh(m api.Module, at api.Place) {
	if len(m.Imports)+len(m.Defs) > api.MaxDefs {
		p.pass(manyDefs, at)
	}
}

func (p *parser) importing() api.Import {
	p.expect("import")
	from := p.name()
	p.expect(".")
	name := p.name()
	t := p.annotation()
	p.expect(";")
	return api.Import{From: from.S, Name: name.S, T: t, At: name.At}
}

func (p *parser) def() api.Def {
	export := p.sign() == "export"
	if export {
		p.take()
	}
	p.expect("let")
	name := p.name()
	t := p.annotation()
	p.expect("=")
	l := p.tree(name.At)
	p.expect(";")
	return api.Def{Name: name.S, Export: export, T: t, Tree: l, At: name.At}
}
