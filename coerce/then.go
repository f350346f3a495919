package coerce

import "culprit/api"

// couple: two trees, one behind the other.
type couple struct{ first, second tree }

// couples answers how the kids of s and t, which have one shape, stand one behind the other where t stands behind s.
func couples(s, t tree) []couple {
	switch t := t.(type) {
	case function:
		if s, ok := s.(function); ok {
			return []couple{{t.argument, s.argument}, {s.result, t.result}}
		}
	case pair:
		if s, ok := s.(pair); ok {
			return []couple{{s.first, t.first}, {s.second, t.second}}
		}
	case list:
		if s, ok := s.(list); ok {
			return []couple{{s.element, t.element}}
		}
	case box:
		if s, ok := s.(box); ok {
			return []couple{{s.read, t.read}, {t.set, s.set}}
		}
	}
	return nil
}

func meets(s, t tree) bool {
	a, b := s.root(), t.root()
	switch {
	case a.Op == api.CoFail:
		return true
	case ends(s) != begins(t):
		return false
	case a.Op == api.CoAny, b.Op == api.CoAny:
		return true
	case a.Head != b.Head:
		return ends(s) // a ? may hold what the next one does not look for
	case b.Op == api.CoFail:
		return true
	}
	for _, kids := range couples(s, t) {
		if !meets(kids.first, kids.second) {
			return false
		}
	}
	return true
}

// then puts s and t, which meet, as one behind what is there.
func then(all []api.Co, s, t tree) []api.Co {
	a, b := s.root(), t.root()
	switch {
	case a.Op == api.CoFail, b.Op == api.CoAny:
		return append(all, s.nodes()...)
	case a.Op == api.CoAny:
		return append(all, t.nodes()...)
	case a.Head != b.Head:
		return append(all, api.Co{Op: api.CoFail, Proj: a.Proj, Head: a.Head, Label: b.Proj, From: a.Head, To: b.Head})
	case b.Op == api.CoFail:
		b.Proj = a.Proj
		return append(all, b)
	}
	a.Inj = b.Inj
	all = append(all, a)
	for _, kids := range couples(s, t) {
		all = then(all, kids.first, kids.second)
	}
	return all
}
