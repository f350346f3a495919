package tree

import (
	"strings"

	"culprit/api"
)

// Free answers the names of a tree that no binder above them binds, as they come.
func Free(l []api.Node) []string {
	if e, _ := Check(l); e != api.OK {
		return nil
	}
	f := finder{nodes: l, bound: map[string]int{}, told: map[string]int{}}
	f.part()
	return f.free
}

// finder goes through a tree from the left. The tree may be, so it is not too deep to call itself for each part.
type finder struct {
	nodes []api.Node
	next  int
	bound map[string]int // how many binders above the next node bind a name
	told  map[string]int // how often a name was found free
	free  []string
}

func (f *finder) part() {
	n := f.nodes[f.next]
	f.next++
	if n.Kind == api.Var {
		f.meet(n.S)
		return
	}
	for kid := range n.Kids {
		names := binds(n, kid)
		for _, name := range names {
			f.bound[name]++
		}
		f.part()
		for _, name := range names {
			f.bound[name]--
		}
	}
}

func (f *finder) meet(name string) {
	if f.bound[name] > 0 {
		return
	}
	if f.told[name] == 0 {
		f.free = append(f.free, name)
	}
	f.told[name]++
}

// binds answers the names that a node binds in one of its kids.
func binds(n api.Node, kid int) []string {
	switch n.Kind {
	case api.Let:
		if kid == 0 {
			return nil
		}
		fallthrough
	case api.Fn, api.Rec:
		// No name has a blank in it: of a Rec these are its two names.
		return strings.Split(n.S, " ")
	}
	return nil
}
