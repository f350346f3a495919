package verify_test

import (
	"slices"
	"strings"
	"testing"

	"culprit/api"
	"culprit/rough"
)

// Casts and types are looked at one by one, ahead of all else.
func TestLists(t *testing.T) {
	good := func() api.Code {
		c := rough.Read("i: push, cast i ?, cast ? i, list 1 i, list 1 li, let, push, ret / i i: local, ret")
		c.Types = append(c.Types, "?")
		return c
	}
	wantCode(t, good(), "good")
	spoil := []struct {
		does func(c *api.Code)
		want string
	}{
		{func(c *api.Code) { c.Casts[0].To = "b" }, "ErrCast -1 0"},
		{func(c *api.Code) { c.Casts[0].To = "z" }, "ErrCast -1 0"},
		{func(c *api.Code) { c.Casts[0].From = "" }, "ErrCast -1 0"},
		{func(c *api.Code) { c.Casts[0].From = "?" }, "ErrCast -1 0"},
		{func(c *api.Code) { c.Casts[0].Co = nil }, "ErrCast -1 0"},
		{func(c *api.Code) { c.Casts[0].Co[0].Head = 'b' }, "ErrCast -1 0"},
		{func(c *api.Code) { c.Casts[0].Co = append(c.Casts[0].Co, c.Casts[0].Co[0]) }, "ErrCast -1 0"},
		{func(c *api.Code) { c.Casts[1].Co[0].Proj = 0 }, "ErrCast -1 1"},
		{func(c *api.Code) { c.Casts[1].To = "?" }, "ErrCast -1 1"},
		{func(c *api.Code) { c.Types[0] = "" }, "ErrShape -1 0"},
		{func(c *api.Code) { c.Types[1] = "l" }, "ErrShape -1 1"},
		{func(c *api.Code) { c.Types[1] = "lii" }, "ErrShape -1 1"},
		{func(c *api.Code) { c.Types[2] = strings.Repeat("l", 64) + "i" }, "ErrShape -1 2"},
		{func(c *api.Code) { c.Types[2] = "z" }, "ErrShape -1 2"},
		{func(c *api.Code) { c.Functions[0].Result = "z" }, "ErrShape 0 -1"},
		{func(c *api.Code) { c.Functions[1].Result = "z" }, "ErrShape 1 -1"},
		{func(c *api.Code) { c.Functions[1].Result = "b" }, "ErrKind 1 1"},
	}
	for n, one := range spoil {
		c := good()
		one.does(&c)
		wantCode(t, c, one.want)
		// With all that is looked at behind it spoilt, too; and with nothing else left.
		for _, other := range spoil[n:] {
			if strings.Fields(one.want)[1] == strings.Fields(other.want)[1] && strings.Fields(one.want)[2] == strings.Fields(other.want)[2] {
				continue
			}
			c := good()
			other.does(&c)
			one.does(&c)
			wantCode(t, c, one.want)
		}
		if strings.Fields(one.want)[1] == "-1" {
			c.Functions = nil
			wantCode(t, c, one.want)
		}
	}
	// What no instruction names is looked at as well.
	c := rough.Read("i: push, ret")
	c.Types = slices.Repeat([]string{"i"}, 5)
	c.Casts = slices.Repeat([]api.Waits{{From: "i", To: "i", Co: []api.Co{{Op: api.CoBase, Head: 'i'}}}}, 5)
	wantCode(t, c, "good")
	c.Types[4] = "i "
	wantCode(t, c, "ErrShape -1 4")
	c.Casts[4].From = "?"
	wantCode(t, c, "ErrCast -1 4")
	c.Casts[3].To = "?"
	wantCode(t, c, "ErrCast -1 3")
}

func TestNoFunction(t *testing.T) {
	wantCode(t, api.Code{}, "ErrFn 0 -1")
	c := rough.Read("i: push, cast i ?, list 0 i, ret")
	c.Functions = c.Functions[:0]
	wantCode(t, c, "ErrFn 0 -1")
	wantCode(t, api.Code{Functions: []api.Function{{}}}, "ErrShape 0 -1")
	wantCode(t, api.Code{Functions: []api.Function{{Result: "i"}}}, "ErrEnd 0 0")
}

// The functions ahead of their instructions.
func TestHeads(t *testing.T) {
	l := func(letters int) string { return strings.Repeat("l", letters-1) + "i" }
	want(t,
		"i i: push, ret", "ErrShape 0 -1",
		"z i: push, ret", "ErrShape 0 -1",
		"_ i: push, ret", "good",
		"_ i; i: push, ret", "ErrShape 0 -1",
		"i; i: push, ret", "ErrShape 0 -1",
		"i; z: push, ret", "ErrShape 0 -1",
		"_: push, ret", "ErrShape 0 -1",
		"ii: push, ret", "ErrShape 0 -1",
		"l: push, ret", "ErrShape 0 -1",
		"i: push, ret / _ i: push, ret", "ErrShape 1 -1",
		"i: push, ret / i _: push, ret", "ErrShape 1 -1",
		"i: push, ret / z i: push, ret", "ErrShape 1 -1",
		"i: push, ret / i z: push, ret", "ErrShape 1 -1",
		"i: push, ret / i i; z: push, ret", "ErrShape 1 -1",
		"i: push, ret / i i; i i z: push, ret", "ErrShape 1 -1",
		"i: push, ret / i i; i i ?: push, ret", "good",
		"i: push, ret / >i i: push, ret", "ErrShape 1 -1",
		// Functions one by one, each ahead of its instructions and of those of all.
		"i: ret / i i: ret / i z: ret", "ErrShape 2 -1",
		"i: ret / i z: ret / z i: ret", "ErrShape 1 -1",
		"z: ret / i z: ret / z i: ret", "ErrShape 0 -1",
		"i: ret / i i: ret", "ErrStack 0 0",
		"i: push, ret / i i: ret / i i: push", "ErrStack 1 0",
		"i: push, ret / i i: push, ret / i i: push", "ErrEnd 2 1",
		// Sizes.
		l(64)+": list 0 "+l(63)+", ret", "good",
		l(65)+": ret", "ErrShape 0 -1",
		"i: push, ret / "+l(32)+" "+l(31)+": list 0 "+l(30)+", ret", "good",
		"i: push, ret / "+l(31)+" "+l(32)+": list 0 "+l(31)+", ret", "good",
		"i: push, ret / "+l(62)+" i: push, ret", "good",
		"i: push, ret / "+l(63)+" i: push, ret", "ErrLarge 1 -1",
		"i: push, ret / i "+l(63)+": ret", "ErrLarge 1 -1",
		"i: push, ret / "+l(32)+" "+l(32)+": ret", "ErrLarge 1 -1",
		"i: push, ret / "+l(64)+" "+l(64)+": ret", "ErrLarge 1 -1",
		"i: push, ret / "+l(65)+" i: ret", "ErrShape 1 -1",
		"i: push, ret / i "+l(65)+": ret", "ErrShape 1 -1",
		"i: push, ret / i i; "+l(64)+": local, ret", "good",
		"i: push, ret / i i; "+l(65)+": local, ret", "ErrShape 1 -1",
		// In one function, what is no type ahead of what is too large; over all, the earlier function.
		"i: push, ret / "+l(63)+" i; z: ret", "ErrShape 1 -1",
		"i: push, ret / "+l(64)+" z: ret", "ErrShape 1 -1",
		"i: push, ret / "+l(63)+" i: ret / z i: ret", "ErrLarge 1 -1",
		"i: push, ret / z i: ret / "+l(63)+" i: ret", "ErrShape 1 -1",
		"i: ret / "+l(63)+" i: ret", "ErrLarge 1 -1",
		// Functions that nobody closes are looked at, too.
		"i: push, ret / i i: truth, ret", "ErrKind 1 1",
		"i: push, ret / i i: local, ret / i i; b t: local 1, ret", "ErrKind 2 1",
	)
}

// The last place of a function must not be passed.
func TestNoEnd(t *testing.T) {
	want(t,
		"i:", "ErrEnd 0 0",
		"i: push", "ErrEnd 0 1",
		"i: push, push, let", "ErrEnd 0 3",
		"i: push, ret / i i:", "ErrEnd 1 0",
		"i: push, ret / i i: local, let", "ErrEnd 1 2",
		"i: truth, unless 3, jump 3, push", "ErrEnd 0 4",
		"i: push, ret, push", "good",
		"i: truth, unless 4, push, ret, push", "ErrEnd 0 5",
		"i: jump 1, push", "ErrEnd 0 2",
	)
}
