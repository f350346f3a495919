package insert

import (
	"culprit/api"
	"culprit/relate"
	"culprit/types"
)

// The rules by which casts are laid, by number; what a site's Rule tells.
const (
	bodyRule = iota + 1
	letRule
	calledRule
	argumentRule
	conditionRule
	thenRule
	elseRule
	intRule
	textRule
	pairRule
	listRule
	boxRule
	elementRule
	firstRule
	setRule
	asRule
)

// casts lays the casts of a node's own around its kids, in their order.
func (i *inserter) casts(p *part) {
	switch n := i.nodes[p.at]; n.Kind {
	case api.Fn, api.Rec:
		i.cast(p, 0, written(n.U), bodyRule)
	case api.Let:
		i.cast(p, 0, written(n.T), letRule)
	case api.Call:
		parts := i.open(p, 0, '>', calledRule)
		i.cast(p, 1, parts[0], argumentRule)
	case api.If:
		i.cast(p, 0, "b", conditionRule)
		i.cast(p, 1, i.types[p.at], thenRule)
		i.cast(p, 2, i.types[p.at], elseRule)
	case api.Add, api.Sub, api.Mul, api.Neg, api.Eq, api.Less:
		i.castEach(p, "i", intRule)
	case api.Join, api.Size:
		i.castEach(p, "t", textRule)
	case api.First, api.Second:
		i.open(p, 0, ',', pairRule)
	case api.List:
		i.castEach(p, types.Parts(i.types[p.at])[0], elementRule)
	case api.Head, api.Tail, api.Empty:
		i.open(p, 0, 'l', listRule)
	case api.Cons:
		parts := i.open(p, 1, 'l', listRule)
		i.cast(p, 0, parts[0], firstRule)
	case api.Get:
		i.open(p, 0, 'x', boxRule)
	case api.Set:
		parts := i.open(p, 0, 'x', boxRule)
		i.cast(p, 1, parts[0], setRule)
	case api.As:
		i.cast(p, 0, n.T, asRule)
	}
}

// cast lays a cast around a kid, from its type to another one, if it is another one.
func (i *inserter) cast(p *part, number int, to string, rule int) {
	kid := p.kids[number]
	from := i.types[kid]
	if from == to {
		return
	}
	place := i.nodes[kid].At
	if rule == asRule { // who asked for the cast wrote it there
		place = i.nodes[p.at].At
	}
	i.sites = append(i.sites, api.Site{Module: i.module, At: place, Rule: rule})
	laid := api.Node{Kind: api.Cast, Kids: 1, N: int64(len(i.sites)), T: from, U: to, At: place}
	inside := p.parts[kid]
	inside.ahead = append([]api.Node{laid}, inside.ahead...)
}

func (i *inserter) castEach(p *part, to string, rule int) {
	for number := range p.kids {
		i.cast(p, number, to, rule)
	}
}

// open casts a kid that is taken apart to what has this head, and answers the parts: what has it already is that type itself, and stays as it is.
func (i *inserter) open(p *part, number int, head byte, rule int) []string {
	parts, _ := relate.Match(i.types[p.kids[number]], head)
	whole, _ := types.Make(head, parts...)
	i.cast(p, number, whole, rule)
	return parts
}
