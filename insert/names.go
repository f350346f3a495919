package insert

import (
	"strings"

	"culprit/api"
)

// distances answers how far off the names of an environment are; of those that are alike the later one counts, which is the nearer one.
func distances(names []string) map[string]int {
	far := make(map[string]int, len(names))
	for i, name := range names {
		far[name] = len(names) - 1 - i
	}
	return far
}

// within answers the names of the binders inside a node. What is put behind those around it is not to be seen by any other node: the three indices leave no room to share.
func within(n api.Node, around []string) []string {
	own := around[:len(around):len(around)]
	switch n.Kind {
	case api.Fn, api.Let:
		return append(own, n.S)
	case api.Rec:
		function, parameter, _ := strings.Cut(n.S, " ")
		return append(own, function, parameter)
	}
	return around
}

// distance answers how many binders stand between a name and the one that binds it; behind those of the tree stand those of the environment.
func (i *inserter) distance(name string, around []string) int {
	for far := range len(around) {
		if around[len(around)-1-far] == name {
			return far
		}
	}
	return len(around) + i.outer[name]
}
