package label_test

import (
	"slices"
	"testing"

	"culprit/api"
	"culprit/label"
)

// What follows: turned twice a blame is itself; its label stays, its side does not.
func TestTurnedTwice(t *testing.T) {
	for _, blame := range someBlames() {
		if isNone(blame) {
			continue
		}
		turned := label.Turn(blame)
		if got := label.Turn(turned); got != blame {
			t.Errorf("what follows: %d turned twice is %d", blame, got)
		}
		n, inside := label.Side(blame)
		m, turnedInside := label.Side(turned)
		if n != m || inside == turnedInside {
			t.Errorf("what follows: %d is %d, %v; turned it is %d, %v", blame, n, inside, m, turnedInside)
		}
	}
}

// What follows: what Named tells of a blame and of it turned are the two modules of its site.
func TestNamedAndTurnedAreTheTwoModules(t *testing.T) {
	var d dice = 21
	sites := append(exampleSites(), d.sites(500, 99)...)
	for i, site := range sites {
		wantInside, wantContext := modulesOf(site)
		for _, blame := range []int64{int64(i) + 1, -int64(i) - 1} {
			one, e := label.Named(sites, blame)
			other, f := label.Named(sites, label.Turn(blame))
			if blame < 0 {
				one, other = other, one
			}
			if e != api.OK || f != api.OK || one != wantInside || other != wantContext {
				t.Errorf("what follows: of %+v blame %d: %q, %d; %q, %d", site, blame, one, e, other, f)
			}
		}
	}
}

// R5: the sites that are handed in stay as they were, their spare room too.
func TestSitesStayAsTheyWere(t *testing.T) {
	var d dice = 5
	room := d.sites(40, 4)
	before := slices.Clone(room)
	sites := room[5:30]
	label.Sorted(sites)
	for blame := int64(-27); blame <= 27; blame++ {
		label.Of(sites, blame)
		label.Named(sites, blame)
		label.Text(sites, blame)
	}
	if !slices.Equal(room, before) {
		t.Error("R5: the sites are changed")
	}
}

// R5, R6: what was handed in or answered before is not kept.
func TestAnswersAreNew(t *testing.T) {
	sites := exampleSites()
	first := label.Sorted(sites)
	clear(first[:cap(first)])
	wantSorted(t, sites, 3, 2, 4, 1)

	got, _ := label.Of(sites, 1)
	got.Module, got.Rule = "other", 18
	wantOf(t, sites, 1, exampleSites()[0])

	kept := label.Sorted(sites)
	slices.Reverse(sites)
	if !slices.Equal(kept, []int{3, 2, 4, 1}) {
		t.Errorf("R5: an answer hangs on its argument: %v", kept)
	}
	wantSorted(t, sites, 2, 3, 1, 4)
	wantNamed(t, sites, 3, "lib")
	wantNamed(t, sites, 4, "main")
}
