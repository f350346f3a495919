package check

import (
	"culprit/api"
	"culprit/text"
	"culprit/types"
)

// scope tells the type of a name where it stands, and whether it has one there.
type scope func(name string) (string, bool)

// environment answers the scope around a whole tree, and whether there is one.
func environment(names, theirs []string) (scope, bool) {
	if len(names) != len(theirs) {
		return nil, false
	}
	latest := make(map[string]int, len(names)) // of names that are alike the later one counts
	for i, name := range names {
		if e, _ := types.Check(theirs[i]); e != api.OK || !text.IsName(name) {
			return nil, false
		}
		latest[name] = i
	}
	return func(name string) (string, bool) {
		i, ok := latest[name]
		if !ok {
			return "", false
		}
		return theirs[i], true
	}, true
}

// with answers the scope in which one more name stands behind all others.
func (around scope) with(name, t string) scope {
	return func(asked string) (string, bool) {
		if asked == name {
			return t, true
		}
		return around(asked)
	}
}
