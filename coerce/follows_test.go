package coerce_test

import (
	"slices"
	"strings"
	"testing"

	"culprit/api"
	"culprit/coerce"
)

// both answers the two as one; they must meet.
func both(t *testing.T, s, u []api.Co) []api.Co {
	t.Helper()
	c, e := coerce.Then(s, u)
	if e != api.OK {
		t.Fatalf("what follows: Then(%s, %s) = %d", told(s), told(u), e)
	}
	wantBounded(t, s, u, c)
	return c
}

// wantBounded: a composition may be, is no higher than the higher one, has no more nodes than its height lets it have, and no labels but theirs, on the same sides.
func wantBounded(t *testing.T, s, u, c []api.Co) {
	t.Helper()
	wantMay(t, c, true)
	h := coerce.Height(c)
	if h > max(coerce.Height(s), coerce.Height(u)) {
		t.Errorf("what follows: Then(%s, %s) = %s is higher than both", told(s), told(u), told(c))
	}
	wantFew(t, c)
	theirs := append(labelsOf(s), labelsOf(u)...)
	for _, n := range labelsOf(c) {
		if !slices.Contains(theirs, n) {
			t.Errorf("what follows: Then(%s, %s) = %s has the label %d", told(s), told(u), told(c), n)
		}
	}
}

// wantFew: at most 2 to its height, less 1, nodes.
func wantFew(t *testing.T, c []api.Co) {
	t.Helper()
	if h := coerce.Height(c); h < 32 && len(c) > 1<<h-1 {
		t.Errorf("what follows: %s has %d nodes, and the height %d", told(c), len(c), h)
	}
}

func wantAssociative(t *testing.T, s, u, v []api.Co) {
	t.Helper()
	left, right := both(t, both(t, s, u), v), both(t, s, both(t, u, v))
	if !slices.Equal(left, right) {
		t.Errorf("what follows: %s, %s, %s: as one from the left %s, from the right %s", told(s), told(u), told(v), told(left), told(right))
	}
}

// Wherever s meets u, and u meets v, both ways can be gone, and end alike.
func TestThenIsAssociative(t *testing.T) {
	_, all := stock()
	all = slices.DeleteFunc(all, func(c co) bool { return kidsOf(c.Op) == 2 && (c.kids[1].Op == api.CoFail || c.kids[0].Head == 'b') }) // else they would be too many
	behind := make([][]int, len(all))
	for i, s := range all {
		for j, u := range all {
			if coerce.Meet(s.list(), u.list()) {
				behind[i] = append(behind[i], j)
			}
		}
	}
	var d dice = 40
	for i, next := range behind {
		for _, j := range next {
			for range 2 {
				if k := behind[j]; len(k) > 0 {
					wantAssociative(t, all[i].list(), all[j].list(), all[k[d.below(len(k))]].list())
				}
			}
		}
	}
}

// All of the low ones, and lists of them.
func TestThenOfLowOnesIsAssociative(t *testing.T) {
	low, all := stock()
	all = slices.DeleteFunc(all, func(c co) bool { return kidsOf(c.Op) == 2 })
	if len(all) < 2*len(low) {
		t.Fatalf("only %d coercions", len(all))
	}
	for _, s := range all {
		for _, u := range all {
			for _, v := range all {
				if meet(s, u) && meet(u, v) {
					wantAssociative(t, s.list(), u.list(), v.list())
				}
			}
		}
	}
}

// Coercions from type to type: they meet, their compositions go from where the first begins to where the last ends.
func TestThenGoesFromEndToEnd(t *testing.T) {
	var d dice = 41
	for range 10000 {
		ends := d.chain(4)
		var c [3][]api.Co
		for i := range c {
			c[i] = d.between(ends[i], ends[i+1], d.below(4)).list()
			wantFew(t, c[i])
		}
		wantAssociative(t, c[0], c[1], c[2])
		if two := both(t, c[0], c[1]); !coerce.Fits(two, ends[0], ends[2]) {
			t.Errorf("what follows: Then(%s, %s) = %s goes not from %s to %s", told(c[0]), told(c[1]), told(two), ends[0], ends[2])
		}
		if all := both(t, both(t, c[0], c[1]), c[2]); !coerce.Fits(all, ends[0], ends[3]) {
			t.Errorf("what follows: %s, %s, %s as one, %s, goes not from %s to %s", told(c[0]), told(c[1]), told(c[2]), told(all), ends[0], ends[3])
		}
	}
}

// The coercions of casts, one behind the other, by the types of short ones.
func TestCastsOneBehindTheOther(t *testing.T) {
	all := allTypes(3)
	for _, from := range all {
		for _, by := range all {
			if !consistent(from, by) {
				continue
			}
			c, _ := coerce.Of(from, by, 1)
			for _, to := range all {
				if !consistent(by, to) {
					continue
				}
				d, _ := coerce.Of(by, to, 2)
				if two := both(t, c, d); !coerce.Fits(two, from, to) {
					t.Errorf("what follows: Then(%s, %s) = %s goes not from %s to %s", told(c), told(d), told(two), from, to)
				}
			}
		}
	}
}

// wantNeutral: the coercions of its ends to themselves change nothing.
func wantNeutral(t *testing.T, c []api.Co, from, to string) {
	t.Helper()
	ahead, _ := coerce.Of(from, from, 77)
	behind, _ := coerce.Of(to, to, -78)
	if !coerce.IsId(ahead) || !coerce.IsId(behind) {
		t.Errorf("what follows: Of(%s, %s), Of(%s, %s) = %s, %s", from, from, to, to, told(ahead), told(behind))
	}
	if got := both(t, ahead, c); !slices.Equal(got, c) {
		t.Errorf("what follows: Then(%s, %s) = %s", told(ahead), told(c), told(got))
	}
	if got := both(t, c, behind); !slices.Equal(got, c) {
		t.Errorf("what follows: Then(%s, %s) = %s", told(c), told(behind), told(got))
	}
}

func TestIdentitiesAreNeutral(t *testing.T) {
	var d dice = 42
	for range 10000 {
		c, from, to := d.dealt()
		wantNeutral(t, c.list(), from, to)
	}
	all := allTypes(3)
	for _, from := range all {
		for _, to := range all {
			if c, e := coerce.Of(from, to, 5); e == api.OK {
				wantNeutral(t, c, from, to)
			}
		}
	}
	deep := strings.Repeat("l", 63)
	wantNeutral(t, list(deep+"!i"), deep+"i", deep+"?")
	wantNeutral(t, list("#1>i"), ">"+strings.Repeat("l", 61)+"ii", deep+"b")
}

// Many coercions one behind the other, as a loop would pile them up: nothing grows.
func TestManyOneBehindTheOther(t *testing.T) {
	there, _ := coerce.Of(">,ibli", "?", 1)
	back, _ := coerce.Of("?", ">,ibli", 2)
	c := there
	for range 1000 {
		c = both(t, both(t, c, back), there)
	}
	if !slices.Equal(c, there) {
		t.Errorf("what follows: it grew, or changed: %s", told(c))
	}
	var dealer dice = 43
	for range 200 {
		ends := dealer.chain(2)
		all := dealer.between(ends[0], ends[1], 3).list()
		highest := coerce.Height(all)
		for range 30 {
			next := dealer.near(ends[1])
			if len(next) > api.MaxType || strings.Count(next, "x") > 6 {
				continue
			}
			more := dealer.between(ends[1], next, 3).list()
			highest = max(highest, coerce.Height(more))
			all, ends[1] = both(t, all, more), next
			if coerce.Height(all) > highest || !coerce.Fits(all, ends[0], next) {
				t.Fatalf("what follows: %s, the height %d, from %s to %s", told(all), coerce.Height(all), ends[0], next)
			}
		}
	}
}

// The bound of nodes is reached by boxes in boxes, and held by their compositions.
func TestTheMostNodes(t *testing.T) {
	for deep := range 12 {
		known, unknown := strings.Repeat("x", deep)+"i", strings.Repeat("x", deep)+"?"
		c, _ := coerce.Of(known, unknown, 1)
		d, _ := coerce.Of(unknown, known, 2)
		for _, two := range [][]api.Co{c, d, both(t, c, d), both(t, d, c)} {
			if len(two) != 1<<(deep+1)-1 || coerce.Height(two) != deep+1 {
				t.Errorf("what follows: %s has %d nodes, the height %d", told(two), len(two), coerce.Height(two))
			}
		}
		if !coerce.IsId(both(t, c, d)) {
			t.Errorf("what follows: Then(%s, %s) is no identity", told(c), told(d))
		}
	}
}
