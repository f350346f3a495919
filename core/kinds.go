package core

import (
	"math"

	"culprit/api"
	"culprit/relate"
	"culprit/types"
)

func (c *checker) number(int) string { return "i" }

func (c *checker) text(at int) string {
	ask(len(c.term[at].S) <= api.MaxText, api.ErrLong, at)
	return "t"
}

func (c *checker) truth(at int) string {
	n := c.term[at].N
	ask(n == 0 || n == 1, api.ErrNumber, at)
	return "b"
}

func (c *checker) variable(at int) string {
	distance := c.term[at].N
	ask(0 <= distance && distance < int64(len(c.bound)), api.ErrUnbound, at)
	return c.bound[len(c.bound)-1-int(distance)]
}

func (c *checker) function(at int) string {
	n := c.term[at]
	t := arrow(at, n)
	askSame(at, c.part(n.T), n.U)
	return t
}

func (c *checker) recursive(at int) string {
	n := c.term[at]
	t := arrow(at, n)
	askSame(at, c.part(t, n.T), n.U)
	return t
}

func (c *checker) call(at int) string {
	kids := c.parts(at)
	function := apart(at, '>', kids[0])
	askSame(at, kids[1], function[0])
	return function[1]
}

func (c *checker) let(int) string {
	bound := c.part()
	return c.part(bound)
}

func (c *checker) choice(at int) string {
	kids := c.parts(at)
	askSame(at, kids[0], "b")
	askSame(at, kids[1], kids[2])
	return kids[1]
}

func (c *checker) reckoning(at int) string {
	c.askEach(at, "i")
	return "i"
}

func (c *checker) comparison(at int) string {
	c.askEach(at, "i")
	return "b"
}

func (c *checker) join(at int) string {
	c.askEach(at, "t")
	return "t"
}

func (c *checker) size(at int) string {
	c.askEach(at, "t")
	return "i"
}

func (c *checker) pair(at int) string { return made(at, ',', c.parts(at)...) }

func (c *checker) first(at int) string { return apart(at, ',', c.part())[0] }

func (c *checker) second(at int) string { return apart(at, ',', c.part())[1] }

func (c *checker) list(at int) string {
	element := c.term[at].T
	askType(at, element)
	c.askEach(at, element)
	return made(at, 'l', element)
}

func (c *checker) head(at int) string { return apart(at, 'l', c.part())[0] }

func (c *checker) tail(at int) string {
	list := c.part()
	apart(at, 'l', list)
	return list
}

func (c *checker) empty(at int) string {
	apart(at, 'l', c.part())
	return "b"
}

func (c *checker) cons(at int) string {
	kids := c.parts(at)
	askSame(at, kids[0], apart(at, 'l', kids[1])[0])
	return kids[1]
}

func (c *checker) box(at int) string { return made(at, 'x', c.parts(at)...) }

func (c *checker) get(at int) string { return apart(at, 'x', c.part())[0] }

func (c *checker) set(at int) string {
	kids := c.parts(at)
	askSame(at, kids[1], apart(at, 'x', kids[0])[0])
	return kids[1]
}

func (c *checker) cast(at int) string {
	n := c.term[at]
	askType(at, n.T)
	askType(at, n.U)
	ask(relate.Consistent(n.T, n.U), api.ErrType, at)
	ask(1 <= n.N && n.N <= math.MaxInt32, api.ErrNumber, at)
	askSame(at, c.part(), n.T)
	return n.U
}

// arrow answers the type of a function by its annotations. Nothing of its kid is asked yet: a Rec's own type is bound in it.
func arrow(at int, n api.Node) string {
	askType(at, n.T)
	askType(at, n.U)
	return made(at, '>', n.T, n.U)
}

// askType takes a text of too many letters as no type either: a type that is too large comes about by being put together alone.
func askType(at int, t string) {
	e, _ := types.Check(t)
	ask(e == api.OK, api.ErrShape, at)
}

func askSame(at int, t, asked string) { ask(t == asked, api.ErrType, at) }

// askEach has all kids of a node told, and asks behind them that each is of one type.
func (c *checker) askEach(at int, asked string) {
	for _, t := range c.parts(at) {
		askSame(at, t, asked)
	}
}

// apart answers the parts of a type that must have this head.
func apart(at int, head byte, t string) []string {
	ask(types.Head(t) == head, api.ErrType, at)
	return types.Parts(t)
}

// made answers a type that is put together of others.
func made(at int, head byte, parts ...string) string {
	t, e := types.Make(head, parts...)
	ask(e == api.OK, e, at)
	return t
}
