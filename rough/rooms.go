package rough

import (
	"slices"

	"culprit/api"
)

// roomy answers a list with spare room behind it, which has something in it.
func roomy[T any](list []T, behind T) []T {
	long := append(slices.Clone(list), behind, behind)
	return long[:len(list)]
}

// Roomy answers the same code in memory of its own, each list of it with spare room.
func Roomy(c api.Code) api.Code {
	c.Nums, c.Texts, c.Types = roomy(c.Nums, 99), roomy(c.Texts, "behind"), roomy(c.Types, "z")
	c.Casts = roomy(c.Casts, api.Waits{From: "z"})
	c.Functions = roomy(c.Functions, api.Function{Param: "z"})
	for n, w := range c.Casts {
		c.Casts[n].Co = roomy(w.Co, api.Co{Op: 99})
	}
	for n, f := range c.Functions {
		c.Functions[n].Env, c.Functions[n].Code = roomy(f.Env, "z"), roomy(f.Code, api.Ins{Op: 99})
	}
	return c
}

// whole answers a list with its spare room, in memory of its own.
func whole[T any](list []T) []T { return slices.Clone(list[:cap(list)]) }

// Kept answers all that code has, spare room too, in memory of its own.
func Kept(c api.Code) api.Code {
	c.Nums, c.Texts, c.Types, c.Casts, c.Functions = whole(c.Nums), whole(c.Texts), whole(c.Types), whole(c.Casts), whole(c.Functions)
	for n, w := range c.Casts {
		c.Casts[n].Co = whole(w.Co)
	}
	for n, f := range c.Functions {
		c.Functions[n].Env, c.Functions[n].Code = whole(f.Env), whole(f.Code)
	}
	return c
}
