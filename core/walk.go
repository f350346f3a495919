package core

import "culprit/api"

// refusal is what a walk gives up with: why a list has no type, and the node that is named.
type refusal struct {
	e    api.Errno
	node int
}

// ask gives up, if what is asked at a node does not hold.
func ask(holds bool, e api.Errno, node int) {
	if !holds {
		panic(refusal{e, node})
	}
}

// shape refuses a list that is no term, whatever its types may be. It goes down no deeper than a term may, so that no list is too much for it, and for the checker behind it.
func shape(term []api.Node, rows map[int8]row) {
	next := 0
	var part func(depth int)
	part = func(depth int) {
		at := next
		ask(at < len(term), api.ErrTree, at)
		n := term[at]
		row, known := rows[n.Kind]
		ask(known && row.takes(n.Kids), api.ErrTree, at)
		ask(depth <= api.MaxHigh, api.ErrDeep, at)
		next++
		for range n.Kids {
			part(depth + 1)
		}
	}
	part(1)
	ask(next == len(term), api.ErrTree, next)
}

// checker goes over a term once, from the left, and tells the types of its parts. The list has the shape of a term.
type checker struct {
	term  []api.Node
	rows  map[int8]row
	next  int      // the node that comes next
	bound []string // the types of the binders around it, the nearest one last
}

// part answers the type of the part at the next node, around which more binders stand, the nearest one last.
func (c *checker) part(binders ...string) string {
	at, around := c.next, len(c.bound)
	c.next++
	c.bound = append(c.bound, binders...)
	t := c.rows[c.term[at].Kind].typed(c, at)
	c.bound = c.bound[:around]
	return t
}

// parts answers the types of all kids of a node.
func (c *checker) parts(at int) []string {
	kids := make([]string, c.term[at].Kids)
	for i := range kids {
		kids[i] = c.part()
	}
	return kids
}
