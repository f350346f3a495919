package label_test

import (
	"fmt"
	"math"
	"slices"
	"testing"

	"culprit/api"
	"culprit/label"
)

func wantSorted(t *testing.T, sites []api.Site, want ...int) {
	t.Helper()
	if got := label.Sorted(sites); !slices.Equal(got, want) {
		t.Errorf("P9.5: Sorted(%.400s) = %v, not %v", fmt.Sprintf("%+v", sites), got, want)
	}
}

func at(line, col int) api.Place { return api.Place{Line: line, Col: col} }

func named(names ...string) []api.Site {
	var all []api.Site
	for _, name := range names {
		all = append(all, api.Site{Module: name})
	}
	return all
}

func TestSortedExamples(t *testing.T) {
	wantSorted(t, exampleSites(), 3, 2, 4, 1)
	wantSorted(t, nil)
	wantSorted(t, []api.Site{})
	wantSorted(t, []api.Site{{}}, 1)
}

// Each key counts, and counts for more than all behind it.
func TestEachKeyAheadOfTheNext(t *testing.T) {
	wantSorted(t, []api.Site{{Module: "b", At: at(1, 1), Rule: 1}, {Module: "a", At: at(2, 1), Rule: 1}}, 2, 1)
	wantSorted(t, []api.Site{{Module: "b", At: at(1, 1), Rule: 1}, {Module: "a", At: at(2, 2), Rule: 2}}, 2, 1)
	wantSorted(t, []api.Site{{Module: "a", At: at(2, 1), Rule: 1}, {Module: "a", At: at(1, 2), Rule: 2}}, 2, 1)
	wantSorted(t, []api.Site{{Module: "a", At: at(1, 2), Rule: 1}, {Module: "a", At: at(1, 1), Rule: 2}}, 2, 1)
	wantSorted(t, []api.Site{{Module: "a", At: at(1, 1), Rule: 2}, {Module: "a", At: at(1, 1), Rule: 1}}, 2, 1)
	wantSorted(t, []api.Site{{Module: "a", At: at(10, 1)}, {Module: "a", At: at(9, 1)}, {Module: "a", At: at(9, 10)}, {Module: "a", At: at(9, 9)}}, 2, 4, 3, 1)
	wantSorted(t, []api.Site{{Rule: 18}, {Rule: 9}, {Rule: 0}, {Rule: -1}, {Rule: 19}}, 4, 3, 2, 1, 5)
}

// Of those that are the same the lower label comes first; the exporter is no key.
func TestSitesThatAreAlike(t *testing.T) {
	same := api.Site{Module: "m", At: at(4, 2), Rule: 18}
	wantSorted(t, []api.Site{same, same, same, same}, 1, 2, 3, 4)
	one, other := same, same
	one.Exporter, other.Exporter = "z", "a"
	wantSorted(t, []api.Site{one, other, one, other}, 1, 2, 3, 4)
	wantSorted(t, named("b", "a", "b", "a"), 2, 4, 1, 3)
	wantSorted(t, []api.Site{{At: at(1, 0)}, {At: at(0, 1)}, {At: at(1, 0)}, {At: at(0, 1)}}, 2, 4, 1, 3)
	many := slices.Repeat([]api.Site{same}, 1000)
	for i, n := range label.Sorted(many) {
		if n != i+1 {
			t.Fatalf("P9.5: of 1000 that are the same %d comes at %d", n, i)
		}
	}
}

func TestNamesByteByByte(t *testing.T) {
	wantSorted(t, named("main", "ma", "m", "main2", ""), 5, 3, 2, 1, 4)
	wantSorted(t, named("a", "B", "b", "A", "_"), 4, 2, 5, 1, 3)
	wantSorted(t, named("m2", "m10", "m1"), 3, 2, 1)
	wantSorted(t, named("\xff", "\xc3\xa4", "z", "\x80", "\x00", "\x7f", ""), 7, 5, 3, 6, 4, 2, 1)
	wantSorted(t, named("m\x00", "m", "m\xff", "m "), 2, 1, 4, 3)
	wantSorted(t, named("ä", "z", "\U0001f600", "\uffff"), 2, 1, 4, 3)
}

func TestNumbersAtTheirEnds(t *testing.T) {
	low, high := math.MinInt, math.MaxInt
	wantSorted(t, []api.Site{{At: at(high, 0)}, {At: at(low, 0)}, {At: at(0, 0)}, {At: at(-1, 0)}, {At: at(1, 0)}}, 2, 4, 3, 5, 1)
	wantSorted(t, []api.Site{{At: at(0, high)}, {At: at(0, low)}, {At: at(0, 0)}, {At: at(0, -1)}, {At: at(0, 1)}}, 2, 4, 3, 5, 1)
	wantSorted(t, []api.Site{{Rule: high}, {Rule: low}, {Rule: 0}, {Rule: -1}, {Rule: 1}}, 2, 4, 3, 5, 1)
	wantSorted(t, []api.Site{{At: at(1<<32, 0)}, {At: at(1, 0)}, {At: at(1<<31, 0)}}, 2, 3, 1)
}

func TestSortedDealtSites(t *testing.T) {
	var d dice = 3
	for range 2000 {
		sites := d.sites(d.below(40), 1+d.below(20))
		wantSorted(t, sites, sortedOf(sites)...)
	}
}

func TestSortedManySites(t *testing.T) {
	var d dice = 17
	const n = 200000
	sites := d.sites(n, 20)
	labels := label.Sorted(sites)
	if len(labels) != n {
		t.Fatalf("P9.5: %d labels of %d sites", len(labels), n)
	}
	met := make([]bool, n+1)
	for i, this := range labels {
		if this < 1 || this > n || met[this] {
			t.Fatalf("P9.5: %d at %d", this, i)
		}
		met[this] = true
		if i > 0 && !isAhead(sites, labels[i-1], this) {
			t.Fatalf("P9.5: %d stands ahead of %d", labels[i-1], this)
		}
	}
}
