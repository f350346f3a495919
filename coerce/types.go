package coerce

import (
	"culprit/api"
	"culprit/relate"
	"culprit/types"
)

// size answers how many nodes the coercion of a cast between consistent types has. Either way it has as many, so that a box's kids need not both be gone through.
func size(from, to string) uint64 {
	switch {
	case from == "?" && to == "?":
		return 1
	case to == "?":
		to = types.Ground(from)
	case from == "?":
		from = types.Ground(to)
	}
	n, others := uint64(1), types.Parts(to)
	for i, part := range types.Parts(from) {
		n += size(part, others[i])
	}
	if types.Head(from) == 'x' {
		n += n - 1
	}
	return n
}

// lay puts the coercion of a cast between consistent types behind what is there.
func lay(all []api.Co, from, to string, label int64) []api.Co {
	if from == "?" && to == "?" {
		return append(all, api.Co{Op: api.CoAny})
	}
	var root api.Co
	switch {
	case to == "?":
		root.Inj, to = true, types.Ground(from)
	case from == "?":
		root.Proj, from = label, types.Ground(to)
	}
	root.Head = types.Head(from)
	root.Op = opOf(root.Head)
	all = append(all, root)
	a, b := types.Parts(from), types.Parts(to)
	switch root.Op {
	case api.CoFun:
		all = lay(all, b[0], a[0], -label)
		all = lay(all, a[1], b[1], label)
	case api.CoPair:
		all = lay(all, a[0], b[0], label)
		all = lay(all, a[1], b[1], label)
	case api.CoList:
		all = lay(all, a[0], b[0], label)
	case api.CoBox:
		all = lay(all, a[0], b[0], label)
		all = lay(all, b[0], a[0], -label)
	}
	return all
}

// goes tells whether a tree goes from the one type to the other.
func goes(t tree, from, to string) bool {
	root := t.root()
	if root.Op == api.CoAny {
		return from == "?" && to == "?"
	}
	a, ok := partsThere(from, root.Proj != 0, root.Head)
	if !ok || root.Op == api.CoFail {
		return ok
	}
	b, ok := partsThere(to, root.Inj, root.Head)
	if !ok {
		return false
	}
	switch t := t.(type) {
	case function:
		return goes(t.argument, b[0], a[0]) && goes(t.result, a[1], b[1])
	case pair:
		return goes(t.first, a[0], b[0]) && goes(t.second, a[1], b[1])
	case list:
		return goes(t.element, a[0], b[0])
	case box:
		return goes(t.read, a[0], b[0]) && goes(t.set, b[0], a[0])
	}
	return true
}

// partsThere answers the parts of a type that stands at one end of a middle of that head: where it must be ?, those of the ground in its place.
func partsThere(t string, unknown bool, head byte) ([]string, bool) {
	if !unknown {
		return types.Parts(t), types.Head(t) == head
	}
	parts, _ := relate.Match("?", head) // it matches none that has no parts
	return parts, t == "?"
}
