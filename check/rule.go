package check

import (
	"strings"

	"culprit/api"
	"culprit/relate"
	"culprit/types"
)

// operation: what the type of each kid must be consistent with, and the type that is given.
type operation struct {
	asked, given string
}

// operations by kinds; literals are such as have no kid to ask.
var operations = [...]operation{
	api.Num:   {given: "i"},
	api.Str:   {given: "t"},
	api.Truth: {given: "b"},
	api.Add:   {asked: "i", given: "i"},
	api.Sub:   {asked: "i", given: "i"},
	api.Mul:   {asked: "i", given: "i"},
	api.Join:  {asked: "t", given: "t"},
	api.Eq:    {asked: "i", given: "b"},
	api.Less:  {asked: "i", given: "b"},
	api.Neg:   {asked: "i", given: "i"},
	api.Size:  {asked: "t", given: "i"},
}

// use: which kid is used, the head that its type must match with parts A and B, and the type that is given. Another kid, if there is one, is handed over as an A.
type use struct {
	kid   int
	head  byte
	given string
}

// uses by kinds; what has no head is none.
var uses = [...]use{
	api.Call:   {kid: 0, head: '>', given: "B"},
	api.First:  {kid: 0, head: ',', given: "A"},
	api.Second: {kid: 0, head: ',', given: "B"},
	api.Head:   {kid: 0, head: 'l', given: "A"},
	api.Tail:   {kid: 0, head: 'l', given: "lA"},
	api.Empty:  {kid: 0, head: 'l', given: "b"},
	api.Cons:   {kid: 1, head: 'l', given: "lA"},
	api.Get:    {kid: 0, head: 'x', given: "A"},
	api.Set:    {kid: 0, head: 'x', given: "A"},
}

// rule asks what a node asks of its kids, which are checked, and answers its type.
func (c *checker) rule(at int, kids []int, around scope) (string, refusal) {
	switch n := c.nodes[at]; n.Kind {
	case api.Var:
		t, ok := around(n.S)
		if !ok {
			return "", refusal{api.ErrUnbound, at}
		}
		return t, refusal{}
	case api.Fn, api.Rec:
		return c.types[at], c.ask(kids[0], written(n.U), refusal{api.ErrType, kids[0]})
	case api.Let:
		return c.types[kids[1]], c.ask(kids[0], written(n.T), refusal{api.ErrType, kids[0]})
	case api.As:
		return n.T, c.ask(kids[0], n.T, refusal{api.ErrType, at})
	case api.If:
		return c.choose(at, kids)
	case api.Pair:
		return made(at, ',', c.types[kids[0]], c.types[kids[1]])
	case api.Box:
		return made(at, 'x', c.types[kids[0]])
	case api.List:
		return c.list(at, kids)
	default:
		if u := uses[n.Kind]; u.head != 0 {
			return c.use(u, kids)
		}
		return c.operate(operations[n.Kind], kids)
	}
}

// ask refuses a kid whose type is not consistent with the one that is asked for.
func (c *checker) ask(kid int, asked string, otherwise refusal) refusal {
	if relate.Consistent(c.types[kid], asked) {
		return refusal{}
	}
	return otherwise
}

func (c *checker) operate(o operation, kids []int) (string, refusal) {
	for _, kid := range kids {
		if r := c.ask(kid, o.asked, refusal{api.ErrType, kid}); r.e != api.OK {
			return "", r
		}
	}
	return o.given, refusal{}
}

func (c *checker) use(u use, kids []int) (string, refusal) {
	parts, ok := relate.Match(c.types[kids[u.kid]], u.head)
	if !ok {
		return "", refusal{api.ErrHead, kids[u.kid]}
	}
	for i, kid := range kids {
		if i == u.kid {
			continue
		}
		if r := c.ask(kid, parts[0], refusal{api.ErrType, kid}); r.e != api.OK {
			return "", r
		}
	}
	// No letter of a type is an A or a B, so what is put in is not looked at again.
	given := strings.ReplaceAll(u.given, "B", parts[len(parts)-1])
	return strings.ReplaceAll(given, "A", parts[0]), refusal{}
}

func (c *checker) choose(at int, kids []int) (string, refusal) {
	if r := c.ask(kids[0], "b", refusal{api.ErrType, kids[0]}); r.e != api.OK {
		return "", r
	}
	return c.meet(at, c.types[kids[1]], kids[2])
}

// list begins with ?, which is what a list of none is of, and meets all as what it is.
func (c *checker) list(at int, kids []int) (string, refusal) {
	all := "?"
	for _, kid := range kids {
		both, r := c.meet(at, all, kid)
		if r.e != api.OK {
			return "", r
		}
		all = both
	}
	return made(at, 'l', all)
}

// meet answers what is known of the branches ahead of a kid and of the kid.
func (c *checker) meet(at int, ahead string, kid int) (string, refusal) {
	both, e := relate.Meet(ahead, c.types[kid])
	if e == api.ErrMeet {
		return "", refusal{api.ErrBranch, kid}
	}
	return both, refusal{e, at}
}

// made answers the type of a node that is put together of its kids' types.
func made(at int, head byte, parts ...string) (string, refusal) {
	t, e := types.Make(head, parts...)
	return t, refusal{e, at}
}
