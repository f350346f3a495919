package coerce_test

import (
	"slices"

	"culprit/api"
)

// dice deals numbers by a rule, so that each run of a test deals the same ones.
type dice uint64

func (d *dice) below(n int) int {
	*d = *d*6364136223846793005 + 1442695040888963407
	return int(uint64(*d) >> 33 % uint64(n))
}

func (d *dice) coin() bool { return d.below(2) == 0 }

func (d *dice) label() int64 {
	return []int64{1, 2, -2, 3, 4, -4, 5, int64(1 + d.below(999)), int64(-1 - d.below(999)), someLabels()[d.below(12)]}[d.below(10)]
}

func (d *dice) head() byte { return heads[d.below(len(heads))] }

// typeOf deals a type of at most room letters, room being at least 1.
func (d *dice) typeOf(room int) string {
	head := letters[d.below(len(letters))]
	if room >= 6 && d.below(4) > 0 {
		head = letters[4+d.below(4)] // else most types would be one letter
	}
	switch n := arity(head); {
	case n == 0 || n >= room:
		leaf := d.below(4)
		return letters[leaf : leaf+1]
	case n == 1:
		return string(rune(head)) + d.typeOf(room-1)
	default:
		first := d.typeOf(1 + d.below(room-2))
		return string(rune(head)) + first + d.typeOf(room-1-len(first))
	}
}

// near deals a type like t: places are put as ?, and now and then as something else.
func (d *dice) near(t string) string {
	switch d.below(12) {
	case 0, 1:
		return "?"
	case 2:
		return d.typeOf(1 + d.below(5))
	}
	if t == "?" && d.coin() {
		return d.typeOf(1 + d.below(4))
	}
	all := t[:1]
	for _, part := range partsOf(t) {
		all += d.near(part)
	}
	return all
}

// chain deals n types, each near the one ahead of it, none with more than MaxType letters.
func (d *dice) chain(n int) []string {
	all := []string{d.typeOf(1 + d.below(10))}
	for len(all) < n {
		if t := d.near(all[len(all)-1]); len(t) <= api.MaxType {
			all = append(all, t)
		}
	}
	return all
}

// between deals a coercion from a type to another one, whichever they are, that looks into a ? no deeper than deep.
func (d *dice) between(from, to string, deep int) co {
	head := from[0]
	switch {
	case from == "?" && to == "?":
		if deep <= 0 || d.coin() {
			return co{Co: api.Co{Op: api.CoAny}}
		}
		head = d.head()
	case from == "?":
		head = to[0]
	}
	c := co{Co: api.Co{Head: head, Inj: to == "?"}}
	if from == "?" {
		c.Proj, from = d.label(), groundOf(head)
	}
	if to == "?" {
		to = groundOf(head)
	}
	if to[0] != head || d.below(12) == 0 {
		return d.failure(c, to[0])
	}
	a, b := partsOf(from), partsOf(to)
	kid := func(i, j string) { c.kids = append(c.kids, d.between(i, j, deep-1)) }
	switch head {
	case '>':
		c.Op = api.CoFun
		kid(b[0], a[0])
		kid(a[1], b[1])
	case ',':
		c.Op = api.CoPair
		kid(a[0], b[0])
		kid(a[1], b[1])
	case 'l':
		c.Op = api.CoList
		kid(a[0], b[0])
	case 'x':
		c.Op = api.CoBox
		kid(a[0], b[0])
		kid(b[0], a[0])
	default:
		c.Op = api.CoBase
	}
	return c
}

// failure deals one that begins as c does.
func (d *dice) failure(c co, to byte) co {
	for to == c.Head || d.below(3) == 0 {
		if to = d.head(); to != c.Head {
			break
		}
	}
	return co{Co: api.Co{Op: api.CoFail, Proj: c.Proj, Head: c.Head, From: c.Head, To: to, Label: d.label()}}
}

// dealt deals a coercion that may be, and where it goes from and to.
func (d *dice) dealt() (c co, from, to string) {
	ends := d.chain(2)
	return d.between(ends[0], ends[1], d.below(4)), ends[0], ends[1]
}

// spoilt changes a list in one place, so that it may cease to be a coercion that may be.
func (d *dice) spoilt(l []api.Co) []api.Co {
	l = slices.Clone(l)
	at := d.below(len(l))
	n := &l[at]
	switch d.below(12) {
	case 0:
		n.Op = int8(d.below(10) - 1)
	case 1, 2:
		n.Inj = !n.Inj
	case 3, 4:
		n.Proj = d.label() * int64(d.below(2))
	case 5:
		n.Proj = noLabels()[d.below(len(noLabels()))]
	case 6:
		n.Head = letters[d.below(len(letters))]
	case 7:
		n.Label = []int64{0, 1, -7, 1 << 31}[d.below(4)]
	case 8:
		n.From = letters[d.below(len(letters))]
	case 9:
		n.To = letters[d.below(len(letters))]
	case 10:
		return slices.Delete(l, at, at+1)
	case 11:
		return slices.Insert(l, at, l[d.below(len(l))])
	}
	return l
}

// stock answers all coercions that may be of height 1 over a few heads and labels, and all of height 2 with those as kids.
func stock() (low, all []co) {
	for _, text := range []string{"?", "i", "!i", "1?i", "-2?!i", "b", "3?b", "#4ib", "5?#-4ib", "#6>i"} {
		low = append(low, co{Co: list(text)[0]})
	}
	all = slices.Clone(low)
	for _, root := range []string{"l", ">", ",", "x"} {
		for _, ends := range []string{"", "!", "7?", "-8?!"} {
			n := list(ends + root)[0]
			for _, first := range low {
				if kidsOf(n.Op) == 1 {
					all = append(all, co{n, []co{first}})
					continue
				}
				for _, second := range low {
					all = append(all, co{n, []co{first, second}})
				}
			}
		}
	}
	return low, slices.DeleteFunc(all, func(c co) bool { return !c.may() })
}
