package print

import "culprit/api"

func (p *pen) module(m api.Module) {
	p.put("module ", m.Name, " {\n")
	for _, i := range m.Imports {
		p.put("  import ", i.From, ".", i.Name, typed(i.T), ";\n")
	}
	for _, d := range m.Defs {
		p.def(d)
	}
	p.put("}\n")
}

func (p *pen) def(d api.Def) {
	p.put("  ")
	if d.Export {
		p.put("export ")
	}
	p.put("let ", d.Name, typed(d.T), " = ")
	p.tree(d.Tree)
	p.put(";\n")
}
