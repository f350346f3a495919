package parse

import (
	"culprit/api"
	"culprit/tree"
)

// branch is a node with its kids at hand: a list has the node ahead of them, but an operator is read behind its first operand.
type branch struct {
	api.Node
	kids []*branch
}

// grow makes a node of kids that are complete.
func (p *parser) grow(kind int8, at api.Place, kids ...*branch) *branch {
	p.nodes++
	b := &branch{kids: kids}
	b.Kind, b.Kids, b.At = kind, len(kids), at
	return b
}

// onto lays a branch behind a list, each node ahead of its kids.
func (b *branch) onto(l []api.Node) []api.Node {
	l = append(l, b.Node)
	for _, kid := range b.kids {
		l = kid.onto(l)
	}
	return l
}

// tree reads an expression as a list of nodes; the limits that are passed with it are told at a place.
func (p *parser) tree(at api.Place) []api.Node {
	root := p.expr()
	if p.nodes > api.MaxNodes {
		p.pass(manyNodes, at)
		return nil
	}
	l := root.onto(nil)
	if tree.Deep(l) > api.MaxNest {
		p.pass(deepTree, at)
	}
	return l
}

// only reads the expression of a source that has nothing else, by its first token.
func (p *parser) only() []api.Node {
	return p.tree(p.place())
}
