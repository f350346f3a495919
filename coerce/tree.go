package coerce

import "culprit/api"

// tree is a coercion that may be, with its kids at hand: one type for each shape.
type tree interface {
	root() api.Co
	nodes() []api.Co
}

// part is the list of a tree's nodes. It has no room behind it: there stands what is not the tree's.
type part []api.Co

func (p part) root() api.Co    { return p[0] }
func (p part) nodes() []api.Co { return p }

type (
	unknown  struct{ part }
	base     struct{ part }
	failure  struct{ part }
	function struct {
		part
		argument, result tree // the argument's goes the other way
	}
	pair struct {
		part
		first, second tree
	}
	list struct {
		part
		element tree
	}
	box struct {
		part
		read, set tree // what is set goes the other way
	}
)

// whole answers a list as a tree; nil, if it is not just one coercion that may be.
func whole(c []api.Co) tree {
	t, rest := take(c, api.MaxNest)
	if len(rest) > 0 {
		return nil
	}
	return t
}

// take answers the tree at the beginning of a list, and what stands behind it; nil, if there is none that may be, or it is higher than highest.
func take(c []api.Co, highest int) (tree, []api.Co) {
	if len(c) == 0 || highest == 0 || !stands(c[0]) {
		return nil, nil
	}
	kids, rest := [2]tree{}, c[1:]
	for i := range kidsOf(c[0].Op) {
		if kids[i], rest = take(rest, highest-1); kids[i] == nil {
			return nil, nil
		}
	}
	end := len(c) - len(rest)
	t := shaped(c[:end:end], kids)
	if !grounded(t) {
		return nil, nil
	}
	return t, rest
}

func shaped(c part, kids [2]tree) tree {
	switch c[0].Op {
	case api.CoFun:
		return function{c, kids[0], kids[1]}
	case api.CoPair:
		return pair{c, kids[0], kids[1]}
	case api.CoList:
		return list{c, kids[0]}
	case api.CoBox:
		return box{c, kids[0], kids[1]}
	case api.CoBase:
		return base{c}
	case api.CoFail:
		return failure{c}
	}
	return unknown{c}
}

// grounded tells whether a tree that begins or ends in ? goes there by a ground: its kids begin and end in ? likewise.
func grounded(t tree) bool {
	from, to := t.root().Proj != 0, t.root().Inj
	switch t := t.(type) {
	case function:
		return reaches(t.argument, to, from) && reaches(t.result, from, to)
	case pair:
		return reaches(t.first, from, to) && reaches(t.second, from, to)
	case list:
		return reaches(t.element, from, to)
	case box:
		return reaches(t.read, from, to) && reaches(t.set, to, from)
	}
	return true
}

// reaches tells whether a tree begins and ends in ?, where that is asked.
func reaches(t tree, from, to bool) bool {
	return (begins(t) || !from) && (ends(t) || !to)
}

func begins(t tree) bool {
	root := t.root()
	return root.Proj != 0 || root.Op == api.CoAny
}

// ends tells it of a failure too, which goes to any type.
func ends(t tree) bool {
	switch t := t.(type) {
	case unknown, failure:
		return true
	default:
		return t.root().Inj
	}
}

func high(t tree) int {
	switch t := t.(type) {
	case function:
		return 1 + max(high(t.argument), high(t.result))
	case pair:
		return 1 + max(high(t.first), high(t.second))
	case list:
		return 1 + high(t.element)
	case box:
		return 1 + max(high(t.read), high(t.set))
	}
	return 1
}
