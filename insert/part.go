package insert

import (
	"culprit/api"
	"culprit/types"
)

// inserter goes over a tree that checks once, from the left. Such a tree is not too deep to call itself for each part.
type inserter struct {
	module string
	nodes  []api.Node
	types  []string       // of the nodes, by their places
	outer  map[string]int // how far off the environment's names are, where no binder stands between
	next   int            // the place of the node that comes next
	sites  []api.Site     // of the labels that are given, from 1 on
}

// part: what a part of the tree becomes. Its kids stand apart till all casts are laid: the labels rise in the order of the casts, which is not that of the term's list.
type part struct {
	at    int
	ahead []api.Node    // what stands ahead of the kids: the cast around it, where one is laid, and the node, of an As none
	kids  []int         // the places of the kids, from the left
	parts map[int]*part // what the kids become, by their places
}

// part answers what the part at the next node becomes; around it stand binders of these names, the nearest one last.
func (i *inserter) part(around []string) *part {
	n := i.nodes[i.next]
	p := &part{at: i.next, ahead: i.node(i.next, around), kids: make([]int, n.Kids), parts: make(map[int]*part, n.Kids)}
	i.next++
	inner := within(n, around)
	for number := range p.kids {
		kid := i.next
		p.kids[number] = kid
		if n.Kind == api.Let && number == 0 { // a Let's name is not bound in what it is bound to
			p.parts[kid] = i.part(around)
		} else {
			p.parts[kid] = i.part(inner)
		}
	}
	i.casts(p)
	return p
}

// term answers a list with the term of a part behind it.
func (p *part) term(list []api.Node) []api.Node {
	list = append(list, p.ahead...)
	for _, kid := range p.kids {
		list = p.parts[kid].term(list)
	}
	return list
}

// node answers what a node of the tree becomes, its kids aside: one of the term, of an As none.
func (i *inserter) node(at int, around []string) []api.Node {
	from := i.nodes[at]
	n := api.Node{Kind: from.Kind, Kids: from.Kids, At: from.At}
	switch from.Kind {
	case api.Num, api.Truth:
		n.N = from.N
	case api.Str:
		n.S = from.S
	case api.Var:
		n.N = int64(i.distance(from.S, around))
	case api.Fn, api.Rec:
		n.T, n.U = written(from.T), written(from.U)
	case api.Let:
		n.T = written(from.T)
	case api.List:
		n.T = types.Parts(i.types[at])[0]
	case api.As:
		return nil
	}
	return []api.Node{n}
}

// written answers an annotation as a type: absent is ?.
func written(annotation string) string {
	if annotation == "" {
		return "?"
	}
	return annotation
}
