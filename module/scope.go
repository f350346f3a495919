package module

import (
	"slices"

	"culprit/api"
)

// scope: what a module's defs see: its imports, then its defs so far, with their types.
type scope struct {
	module       string
	names, types []string
}

// fresh asks that a name is not bound yet in this module.
func (s *scope) fresh(name string, at api.Place) {
	if slices.Contains(s.names, name) {
		s.refuse(api.ErrTwice, at)
	}
}

func (s *scope) bind(name, t string) {
	s.names, s.types = append(s.names, name), append(s.types, t)
}

// refuse gives up: a rule is broken in this module.
func (s *scope) refuse(e api.Errno, at api.Place) {
	panic(wrong{e, api.Site{Module: s.module, At: at}})
}
