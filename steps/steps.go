// Package steps runs core terms step by step, as chapter 16 says it. It is what the layers that run terms do alike; what a Cast makes of a value each of them says by itself.
package steps

import (
	"culprit/api"
	"culprit/core"
)

// InLimits tells whether a run may have that fuel, and be seen down to that depth.
func InLimits(fuel, depth int) bool {
	return 0 <= fuel && fuel <= api.MaxFuel && 0 <= depth && depth <= api.MaxObs
}

// MayRun answers why a term that is to check is not run, or OK.
func MayRun(term []api.Node, fuel, depth int) api.Errno {
	if !InLimits(fuel, depth) {
		return api.ErrArg
	}
	_, e, _ := core.Check(term)
	return e
}
