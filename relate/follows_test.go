package relate_test

import (
	"slices"
	"testing"

	"culprit/api"
	"culprit/relate"
	"culprit/types"
)

// preciseTable asks of each of some types whether it is at least as precise as each of others.
func preciseTable(some, others []string) [][]bool {
	table := make([][]bool, len(some))
	for i, s := range some {
		table[i] = make([]bool, len(others))
		for j, t := range others {
			table[i][j] = relate.Precise(s, t)
		}
	}
	return table
}

// What follows: Precise orders types, and ? is the least precise of all.
func TestPreciseOrders(t *testing.T) {
	all := allTypes(4)
	precise := preciseTable(all, all)
	for i, s := range all {
		if !precise[i][i] {
			t.Errorf("what follows: %q is not as precise as itself", s)
		}
		if !relate.Precise(s, "?") || s != "?" && relate.Precise("?", s) {
			t.Errorf("what follows: ? is not less precise than %q", s)
		}
		for j, u := range all {
			if i != j && precise[i][j] && precise[j][i] {
				t.Errorf("what follows: %q and %q are as precise as each other", s, u)
			}
			for k, v := range all {
				if precise[i][j] && precise[j][k] && !precise[i][k] {
					t.Errorf("what follows: %q, %q, %q: the first is not as precise as the last", s, u, v)
				}
			}
		}
	}
}

func TestPreciseOrdersLargeTypes(t *testing.T) {
	var d dice = 17
	for range 2000 {
		s := d.typeOf(api.MaxType)
		u := d.blurred(s, 12)
		v := d.blurred(u, 12)
		for _, two := range [][2]string{{s, s}, {s, u}, {u, v}, {s, v}, {v, "?"}} {
			if !relate.Precise(two[0], two[1]) || two[0] != two[1] && relate.Precise(two[1], two[0]) {
				t.Errorf("what follows: %q is more precise than %q", two[0], two[1])
			}
		}
	}
}

// What follows: two types are consistent just if some type is at least as precise as both; their meet is one, and each such one is at least as precise as it.
func TestTheMeetIsTheLeastPreciseOfBoth(t *testing.T) {
	all, finer := allTypes(4), allTypes(5) // no two of the first have a meet of more letters
	precise := preciseTable(finer, all)
	for i, s := range all {
		for j, u := range all {
			m, e := relate.Meet(s, u)
			if relate.Consistent(s, u) != (e == api.OK) {
				t.Errorf("what follows: Meet(%q, %q): %d", s, u, e)
			}
			if e == api.OK && (!relate.Precise(m, s) || !relate.Precise(m, u)) {
				t.Errorf("what follows: the meet %q is not as precise as %q and %q", m, s, u)
			}
			for k, v := range finer {
				if precise[k][i] && precise[k][j] && (e != api.OK || !relate.Precise(v, m)) {
					t.Errorf("what follows: %q is as precise as %q and %q, but not as their meet: %q, %d", v, s, u, m, e)
				}
			}
		}
	}
}

// What follows: both are at least as precise as their join, and it as whatever they both are.
func TestTheJoinIsTheMostPreciseOfBoth(t *testing.T) {
	all := allTypes(4)
	precise := preciseTable(all, all)
	for i, s := range all {
		for j, u := range all {
			joined, e := relate.Join(s, u)
			k := slices.Index(all, joined)
			if e != api.OK || k < 0 {
				t.Fatalf("what follows: Join(%q, %q) = %q, %d", s, u, joined, e)
			}
			if !precise[i][k] || !precise[j][k] {
				t.Errorf("what follows: %q and %q are not as precise as their join %q", s, u, joined)
			}
			for l, v := range all { // all there are: what is less precise has no more letters
				if precise[i][l] && precise[j][l] && !precise[k][l] {
					t.Errorf("what follows: %q and %q are as precise as %q, their join %q is not", s, u, v, joined)
				}
			}
		}
	}
}

func TestMeetAndJoinOfLargeTypes(t *testing.T) {
	var d dice = 19
	for range 2000 {
		fine := d.typeOf(api.MaxType)
		s, u := d.blurred(fine, 12), d.blurred(fine, 12)
		coarse := d.blurred(s, 8)
		m, e := relate.Meet(s, u)
		if e != api.OK || !relate.Consistent(s, u) || !relate.Precise(m, s) || !relate.Precise(m, u) || !relate.Precise(fine, m) {
			t.Errorf("what follows: Meet(%q, %q) = %q, %d; both are less precise than %q", s, u, m, e, fine)
		}
		both, _ := relate.Join(u, coarse)
		joined, e := relate.Join(s, u)
		if e != api.OK || !relate.Precise(s, joined) || !relate.Precise(u, joined) || !relate.Precise(joined, both) {
			t.Errorf("what follows: Join(%q, %q) = %q, %d; both are more precise than %q", s, u, joined, e, both)
		}
	}
}

// What follows: a type is consistent with what it is at least as precise as; consistency goes both ways, but is not handed on.
func TestConsistency(t *testing.T) {
	all := allTypes(4)
	for _, s := range all {
		for _, u := range all {
			if relate.Precise(s, u) && !relate.Consistent(s, u) {
				t.Errorf("what follows: %q is as precise as %q, but not consistent with it", s, u)
			}
			if relate.Consistent(s, u) != relate.Consistent(u, s) {
				t.Errorf("what follows: %q and %q are consistent one way alone", s, u)
			}
		}
	}
	if !relate.Consistent("i", "?") || !relate.Consistent("?", "b") || relate.Consistent("i", "b") {
		t.Error("what follows: consistency is handed on from int by ? to bool")
	}
}

// What follows: s is at least as precise as t just if steps looser lead from s to t, none or more. A looser type has never more letters, and is no higher.
func TestStepsLooser(t *testing.T) {
	all := allTypes(4)
	for _, s := range all {
		reached := map[string]bool{s: true}
		for work := []string{s}; len(work) > 0; work = work[1:] {
			for _, next := range relate.Looser(work[0]) {
				wantLess(t, work[0], next)
				if !reached[next] {
					reached[next] = true
					work = append(work, next)
				}
			}
		}
		for _, u := range all {
			if relate.Precise(s, u) != reached[u] {
				t.Errorf("what follows: from %q to %q: Precise tells %v, steps looser lead there: %v", s, u, !reached[u], reached[u])
			}
			delete(reached, u)
		}
		if len(reached) > 0 {
			t.Errorf("what follows: steps looser from %q lead to what has more letters: %v", s, reached)
		}
	}
}

func wantLess(t *testing.T, s, next string) {
	t.Helper()
	if len(next) > len(s) || types.Height(next) > types.Height(s) || types.Height(next) == 0 {
		t.Errorf("what follows: a step looser from %q is larger, or no type: %q", s, next)
	}
	if next == s || !relate.Precise(s, next) {
		t.Errorf("what follows: %q is not more precise than a step looser, %q", s, next)
	}
}

// Of large types there are too many looser ones to go through: one way that leads there is enough, and each step can be held to be the next one.
func TestStepsLooserOfLargeTypes(t *testing.T) {
	var d dice = 29
	for range 200 {
		s := d.typeOf(api.MaxType)
		end := d.blurred(s, 10)
		for s != end {
			steps := relate.Looser(s)
			for _, next := range steps {
				wantLess(t, s, next)
			}
			at := slices.IndexFunc(steps, func(next string) bool { return relate.Precise(next, end) })
			if at < 0 {
				t.Fatalf("what follows: no step looser leads from %q to %q", s, end)
			}
			s = steps[at]
		}
	}
}
