package value_test

import (
	"culprit/api"
	"culprit/coerce"
)

// dice deals numbers by a rule, so that each run of a test deals the same ones.
type dice uint64

func (d *dice) below(n int) int {
	*d = *d*6364136223846793005 + 1442695040888963407
	return int(uint64(*d) >> 33 % uint64(n))
}

func (d *dice) coin() bool { return d.below(2) == 0 }

func (d *dice) label() int64 {
	return []int64{1, 2, -2, 3, 4, -4, 5, int64(1 + d.below(999)), int64(-1 - d.below(999)), someLabels()[d.below(12)]}[d.below(10)]
}

func (d *dice) head() byte { return heads[d.below(len(heads))] }

// typeOf deals a type of at most room letters, room being at least 1.
func (d *dice) typeOf(room int) string {
	head := letters[d.below(len(letters))]
	if room >= 6 && d.below(4) > 0 {
		head = letters[4+d.below(4)] // else most types would be one letter
	}
	return d.typeWith(head, room)
}

// typeWith deals a type with that head, if there is room for it.
func (d *dice) typeWith(head byte, room int) string {
	switch n := arity(head); {
	case n == 0:
		return string(rune(head))
	case n >= room:
		leaf := d.below(4)
		return letters[leaf : leaf+1]
	case n == 1:
		return string(rune(head)) + d.typeOf(room-1)
	default:
		first := d.typeOf(1 + d.below(room-2))
		return string(rune(head)) + first + d.typeOf(room-1-len(first))
	}
}

// near deals a type that is consistent with t: places are put as ?, and what was ? as something else.
func (d *dice) near(t string) string {
	if d.below(6) == 0 {
		return "?"
	}
	if t == "?" {
		return d.typeOf(1 + d.below(4))
	}
	all := t[:1]
	for _, part := range partsOf(t) {
		all += d.near(part)
	}
	return all
}

// chain deals n types behind the first, each consistent with the one ahead of it, none with more than MaxType letters.
func (d *dice) chain(first string, n int) []string {
	all := []string{first}
	for len(all) <= n {
		if t := d.near(all[len(all)-1]); len(t) <= api.MaxType {
			all = append(all, t)
		}
	}
	return all
}

// coercion deals one that goes from the one type to the other, whichever they are; it looks into a ? no deeper than deep.
func (d *dice) coercion(from, to string, deep int) []api.Co {
	head := from[0]
	switch {
	case from == "?" && to == "?":
		if deep <= 0 || d.coin() {
			return []api.Co{{Op: api.CoAny}}
		}
		head = d.head()
	case from == "?":
		head = to[0]
	}
	c := api.Co{Head: head, Inj: to == "?"}
	if from == "?" {
		c.Proj, from = d.label(), groundOf(head)
	}
	if to == "?" {
		to = groundOf(head)
	}
	if to[0] != head || d.below(15) == 0 {
		return d.failure(c)
	}
	a, b := partsOf(from), partsOf(to)
	all := []api.Co{c}
	kid := func(from, to string) { all = append(all, d.coercion(from, to, deep-1)...) }
	switch head {
	case '>':
		all[0].Op = api.CoFun
		kid(b[0], a[0])
		kid(a[1], b[1])
	case ',':
		all[0].Op = api.CoPair
		kid(a[0], b[0])
		kid(a[1], b[1])
	case 'l':
		all[0].Op = api.CoList
		kid(a[0], b[0])
	case 'x':
		all[0].Op = api.CoBox
		kid(a[0], b[0])
		kid(b[0], a[0])
	default:
		all[0].Op = api.CoBase
	}
	return all
}

// failure deals one that begins as c does.
func (d *dice) failure(c api.Co) []api.Co {
	to := d.head()
	for to == c.Head {
		to = d.head()
	}
	return []api.Co{{Op: api.CoFail, Proj: c.Proj, Head: c.Head, From: c.Head, To: to, Label: d.label()}}
}

// step deals one of the ways to go from a type to a consistent one: that of a cast, or, now and then, any other.
func (d *dice) step(from, to string) []api.Co {
	if d.below(3) > 0 {
		c, _ := coerce.Of(from, to, d.label())
		return c
	}
	return d.coercion(from, to, d.below(3))
}
