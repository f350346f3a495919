package tree

import (
	"culprit/api"
	"culprit/text"
)

// Modules tells whether modules are few and small enough, and whether all names, annotations and trees of theirs may be.
func Modules(l []api.Module) api.Errno {
	if len(l) > api.MaxModules {
		return api.ErrMany
	}
	nodes := 0
	for _, m := range l {
		if len(m.Imports)+len(m.Defs) > api.MaxDefs {
			return api.ErrMany
		}
		for _, d := range m.Defs {
			nodes += len(d.Tree)
		}
	}
	for _, m := range l {
		if e := checkModule(m); e != api.OK {
			return e
		}
	}
	if nodes > api.MaxNodes {
		return api.ErrMany
	}
	return api.OK
}

func checkModule(m api.Module) api.Errno {
	if !text.IsName(m.Name) {
		return api.ErrTree
	}
	for _, i := range m.Imports {
		if !text.IsName(i.From) || !text.IsName(i.Name) || !isAnnotation(i.T) {
			return api.ErrTree
		}
	}
	for _, d := range m.Defs {
		if !text.IsName(d.Name) || !isAnnotation(d.T) {
			return api.ErrTree
		}
		if e, _ := Check(d.Tree); e != api.OK {
			return e
		}
	}
	return api.OK
}
