package module

import "culprit/api"

// The rules by which casts are laid around what modules bind, by number; the numbers ahead of them are those of chapter 11.
const (
	defRule = iota + 17
	importRule
)

func (p *program) let(t string, at api.Place) {
	p.term = append(p.term, api.Node{Kind: api.Let, Kids: 2, T: t, At: at})
	p.lets++
}

// cast lays a cast around what comes next, if it goes to another type.
func (p *program) cast(from, to string, site api.Site) {
	if from == to {
		return
	}
	p.sites = append(p.sites, site)
	p.term = append(p.term, api.Node{Kind: api.Cast, Kids: 1, N: int64(len(p.sites)), T: from, U: to, At: site.At})
}

// relabel moves the labels of a tree's term, which go on from 1, behind those that are given already, and takes in their sites.
func (p *program) relabel(term []api.Node, sites []api.Site) {
	given := int64(len(p.sites))
	for i := range term {
		if term[i].Kind == api.Cast {
			term[i].N += given
		}
	}
	p.sites = append(p.sites, sites...)
}
