package label_test

import (
	"math"
	"testing"

	"culprit/api"
	"culprit/label"
)

func wantOf(t *testing.T, sites []api.Site, blame int64, want api.Site) {
	t.Helper()
	if got, e := label.Of(sites, blame); got != want || e != api.OK {
		t.Errorf("P9.3: Of(%d) = %+v, %d; not %+v", blame, got, e, want)
	}
}

func wantNamed(t *testing.T, sites []api.Site, blame int64, want string) {
	t.Helper()
	if got, e := label.Named(sites, blame); got != want || e != api.OK {
		t.Errorf("P9.3: Named(%d) = %q, %d; not %q", blame, got, e, want)
	}
}

func wantText(t *testing.T, sites []api.Site, blame int64, want string) {
	t.Helper()
	if got, e := label.Text(sites, blame); got != want || e != api.OK {
		t.Errorf("P9.4: Text(%d) = %q, %d; not %q", blame, got, e, want)
	}
}

// wantRefused asks all three calls: beside an error all else is zero.
func wantRefused(t *testing.T, sites []api.Site, blame int64) {
	t.Helper()
	if got, e := label.Of(sites, blame); got != (api.Site{}) || e != api.ErrArg {
		t.Errorf("P9.3: Of(%d) of %d sites = %+v, %d", blame, len(sites), got, e)
	}
	if got, e := label.Named(sites, blame); got != "" || e != api.ErrArg {
		t.Errorf("P9.3: Named(%d) of %d sites = %q, %d", blame, len(sites), got, e)
	}
	if got, e := label.Text(sites, blame); got != "" || e != api.ErrArg {
		t.Errorf("P9.4: Text(%d) of %d sites = %q, %d", blame, len(sites), got, e)
	}
}

func TestTheExamples(t *testing.T) {
	sites := exampleSites()
	for i, site := range sites {
		wantOf(t, sites, int64(i)+1, site)
		wantOf(t, sites, -int64(i)-1, site)
	}
	wantNamed(t, sites, 1, "main")
	wantNamed(t, sites, -1, "main")
	wantNamed(t, sites, 2, "lib")
	wantNamed(t, sites, -2, "main")
	wantNamed(t, sites, 3, "lib")
	wantNamed(t, sites, -3, "lib")
	wantText(t, sites, 1, "main at 3:14 argument inside")
	wantText(t, sites, -1, "main at 3:14 argument context")
	wantText(t, sites, 2, "lib at 1:8 import inside from lib to main")
	wantText(t, sites, -2, "main at 1:8 import context from lib to main")
	wantText(t, sites, 3, "lib at 9:1 as inside")
	wantText(t, sites, 4, "main at 3:14 0 inside")
	wantText(t, sites, -4, "main at 3:14 0 context")
}

func TestLabelsThatHaveNoSite(t *testing.T) {
	sites := exampleSites()
	for _, blame := range []int64{0, math.MinInt64, 5, -5, 6, 1<<32 + 1, -1<<32 - 1, math.MaxInt64, math.MinInt64 + 1} {
		wantRefused(t, sites, blame)
	}
	for _, none := range [][]api.Site{nil, {}, sites[:0]} {
		for _, blame := range someBlames() {
			wantRefused(t, none, blame)
		}
	}
}

// What stands in the spare room of a list is no site of it.
func TestOneMoreThanTheLastLabel(t *testing.T) {
	sites := exampleSites()
	for n := 1; n < len(sites); n++ {
		last := int64(n)
		wantOf(t, sites[:n], last, sites[n-1])
		wantOf(t, sites[:n], -last, sites[n-1])
		wantRefused(t, sites[:n], last+1)
		wantRefused(t, sites[:n], -last-1)
	}
}

// An Exporter is told of a border alone.
func TestBordersAndOtherSites(t *testing.T) {
	for rule := -2; rule <= 21; rule++ {
		sites := []api.Site{{Module: "app", Exporter: "lib", At: api.Place{Line: 2, Col: 7}, Rule: rule}}
		if rule == 18 {
			wantNamed(t, sites, 1, "lib")
			wantNamed(t, sites, -1, "app")
			wantText(t, sites, 1, "lib at 2:7 import inside from lib to app")
			wantText(t, sites, -1, "app at 2:7 import context from lib to app")
			continue
		}
		wantNamed(t, sites, 1, "app")
		wantNamed(t, sites, -1, "app")
		wantText(t, sites, 1, textOf(sites[0], 1))
		wantText(t, sites, -1, textOf(sites[0], -1))
	}
}

func TestOddNumbersAreToldInTens(t *testing.T) {
	wantText(t, []api.Site{{Module: "m", At: api.Place{Line: math.MinInt64, Col: math.MaxInt64}, Rule: math.MinInt64}}, 1,
		"m at -9223372036854775808:9223372036854775807 -9223372036854775808 inside")
	wantText(t, []api.Site{{Module: "m", At: api.Place{Line: -1}, Rule: math.MaxInt64}}, -1, "m at -1:0 9223372036854775807 context")
	wantText(t, []api.Site{{Module: "m", At: api.Place{Line: 0, Col: -10}, Rule: 19}}, 1, "m at 0:-10 19 inside")
	wantText(t, []api.Site{{Module: "m", At: api.Place{Line: 100, Col: 10}, Rule: -18}}, 1, "m at 100:10 -18 inside")
	wantText(t, []api.Site{{Module: "m", At: api.Place{Line: 1, Col: 1}, Rule: 17}}, 1, "m at 1:1 def inside")
}

// A name is told as it is: the blanks beside an empty one stay.
func TestOddNames(t *testing.T) {
	wantText(t, []api.Site{{}}, 1, " at 0:0 0 inside")
	wantText(t, []api.Site{{Rule: 18}}, -1, " at 0:0 import context from  to ")
	wantText(t, []api.Site{{Module: "", Exporter: "lib", Rule: 18}}, 1, "lib at 0:0 import inside from lib to ")
	wantText(t, []api.Site{{Module: "app", Rule: 18}}, 1, " at 0:0 import inside from  to app")
	wantText(t, []api.Site{{Module: "\xff \n", Exporter: "\x00\"", Rule: 18}}, -1, "\xff \n at 0:0 import context from \x00\" to \xff \n")
	wantText(t, []api.Site{{Module: " m ", Rule: 2}}, 1, " m  at 0:0 let inside")
	wantNamed(t, []api.Site{{}}, 1, "")
	wantNamed(t, []api.Site{{Module: "app", Rule: 18}}, 1, "")
	wantNamed(t, []api.Site{{Exporter: "lib", Rule: 18}}, -1, "")
	wantNamed(t, []api.Site{{Module: "\xff\xfe"}}, -1, "\xff\xfe")
}

func TestDealtSites(t *testing.T) {
	var d dice = 9
	borders := 0
	for range 300 {
		sites := d.sites(d.below(12), 99)
		for _, blame := range someBlames() {
			at := placeIn(sites, blame)
			if at < 0 {
				wantRefused(t, sites, blame)
				continue
			}
			site := sites[at]
			wantOf(t, sites, blame, site)
			wantNamed(t, sites, blame, namedOf(site, blame))
			wantText(t, sites, blame, textOf(site, blame))
			if site.Rule == 18 {
				borders++
			}
		}
	}
	if borders < 100 {
		t.Errorf("only %d borders were dealt", borders)
	}
}
