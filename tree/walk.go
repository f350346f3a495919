package tree

import "culprit/api"

// fault is what a walk is left with: the place at which no part goes on.
type fault struct {
	at int
}

// walk visits the nodes of the part at a node from the left, each with its depth there, and answers where the part ends. Where the list ends ahead of that, all parts that are open are left at once, by a panic.
// It keeps its own count of what is open, so that no list is nested too deep for it.
func walk(l []api.Node, at int, visit func(at, depth int)) (end int) {
	missing := []int{1} // of each open part, how many kids are still to come
	for len(missing) > 0 {
		last := len(missing) - 1
		if missing[last] == 0 {
			missing = missing[:last]
			continue
		}
		missing[last]--
		if at == len(l) {
			panic(fault{at})
		}
		visit(at, len(missing))
		if l[at].Kids < 0 {
			panic(fault{at})
		}
		missing = append(missing, l[at].Kids)
		at++
	}
	return at
}
