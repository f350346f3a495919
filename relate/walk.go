package relate

import (
	"culprit/api"
	"culprit/types"
)

// check answers the error of the first text that is no type.
func check(texts ...string) api.Errno {
	for _, t := range texts {
		if e, _ := types.Check(t); e != api.OK {
			return e
		}
	}
	return api.OK
}

// together tells whether s and t are types with one head wherever they stand side by side; of two that are settled no more is asked.
func together(s, t string, settled func(s, t string) bool) bool {
	if check(s, t) != api.OK {
		return false
	}
	var agree func(some, others []string) bool
	agree = func(some, others []string) bool {
		all := true
	parts:
		for i, one := range some {
			other := others[i]
			switch {
			case settled(one, other):
			case types.Head(one) != types.Head(other), !agree(types.Parts(one), types.Parts(other)):
				all = false
				break parts
			}
		}
		return all
	}
	return agree([]string{s}, []string{t})
}

// merge makes one type of two: what settle tells where it tells something, elsewhere their head, which must be one, and their parts merged.
func merge(s, t string, settle func(s, t string) (string, bool)) (string, api.Errno) {
	var put func(s, t string) (string, api.Errno)
	put = func(s, t string) (string, api.Errno) {
		if merged, ok := settle(s, t); ok {
			return merged, api.OK
		}
		parts, others := types.Parts(s), types.Parts(t)
		for i, part := range parts {
			merged, e := put(part, others[i])
			if e != api.OK {
				return "", e
			}
			parts[i] = merged
		}
		return types.Make(types.Head(s), parts...)
	}
	return put(s, t)
}
