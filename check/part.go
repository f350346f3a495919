package check

import (
	"strings"

	"culprit/api"
	"culprit/types"
)

// refusal: why a tree has no types, and the node that is named; api.OK, where nothing is refused.
type refusal struct {
	e  api.Errno
	at int
}

// checker goes through a tree once, from the left. The tree may be, so it is not too deep to call itself for each part.
type checker struct {
	nodes []api.Node
	types []string // of the nodes that are checked, by their numbers
	next  int      // the node that comes next
}

// part checks the part at the next node: its kids, each whole, ahead of what is asked of them.
func (c *checker) part(around scope) refusal {
	at := c.next
	c.next++
	check, e := c.kidOf(at, around)
	if e != api.OK {
		return refusal{e, at}
	}
	kids := make([]int, c.nodes[at].Kids)
	for i := range kids {
		kids[i] = c.next
		if r := check(i); r.e != api.OK {
			return r
		}
	}
	t, r := c.rule(at, kids, around)
	c.types[at] = t
	return r
}

// kidOf answers what checks the kids of a node, one by one: it knows the environment at each of them. A binder's own type comes about here, ahead of its kid: a Rec's stands in its kid's environment.
func (c *checker) kidOf(at int, around scope) (func(kid int) refusal, api.Errno) {
	n := c.nodes[at]
	inner, bound := around, n.S
	switch n.Kind {
	case api.Fn, api.Rec:
		t, e := types.Make('>', written(n.T), written(n.U))
		if e != api.OK {
			return nil, e
		}
		c.types[at] = t
		if n.Kind == api.Rec {
			function, parameter, _ := strings.Cut(n.S, " ")
			inner, bound = inner.with(function, t), parameter
		}
		inner = inner.with(bound, written(n.T))
	case api.Let:
		inner = inner.with(bound, written(n.T))
	}
	return func(kid int) refusal {
		if n.Kind == api.Let && kid == 0 { // a Let's name is not bound in what it is bound to
			return c.part(around)
		}
		return c.part(inner)
	}, api.OK
}

// written answers an annotation as a type: absent is ?.
func written(annotation string) string {
	if annotation == "" {
		return "?"
	}
	return annotation
}
