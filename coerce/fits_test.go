package coerce_test

import (
	"strings"
	"testing"

	"culprit/api"
	"culprit/coerce"
)

func wantFits(t *testing.T, c []api.Co, from, to string, want bool) {
	t.Helper()
	if got := coerce.Fits(c, from, to); got != want {
		t.Errorf("P13.3: Fits(%s, %.70q, %.70q) = %v", told(c), from, to, got)
	}
}

// wantOnly: of all types of at most 3 letters, and some more, c goes just from those to those.
func wantOnly(t *testing.T, c string, from, to string) {
	t.Helper()
	all := append(allTypes(3), ">ixi", ",lil?", "l,i?", "xl?", ">>iii")
	among := func(types, s string) bool {
		return types == "all" || strings.Contains(" "+types+" ", " "+s+" ")
	}
	for _, a := range all {
		for _, b := range all {
			wantFits(t, list(c), a, b, among(from, a) && among(to, b))
		}
	}
}

func TestFitsOfEachOp(t *testing.T) {
	for _, c := range []struct{ c, from, to string }{
		{"?", "?", "?"},
		{"i", "i", "i"}, {"b", "b", "b"}, {"t", "t", "t"}, {"!i", "i", "?"}, {"1?i", "?", "i"}, {"1?!i", "?", "?"}, {"-1?!t", "?", "?"},
		// A failure goes to any type, and from any of its head.
		{"#1ib", "i", "all"}, {"#1bi", "b", "all"}, {"2?#1ib", "?", "all"}, {"2?#1>l", "?", "all"},
		{"#1li", "li lb lt l? lli llb llt ll? lxi lxb lxt lx? l,i?", "all"},
		{"#1x>", "xi xb xt x? xli xlb xlt xl? xxi xxb xxt xx?", "all"},
		// Each head bare, with ? at either end, at both.
		{">ii", ">ii", ">ii"}, {">ib", ">ib", ">ib"}, {">??", ">??", ">??"}, {"!>??", ">??", "?"}, {"3?>??", "?", ">??"}, {"3?!>??", "?", "?"},
		{">!ii", ">?i", ">ii"}, {">1?ii", ">ii", ">?i"}, {">i!i", ">ii", ">i?"}, {">i1?b", ">i?", ">ib"}, {">1?i!b", ">ib", ">??"}, {">!i1?b", ">??", ">ib"},
		{"!>1?i!b", ">ib", "?"}, {"3?>!i1?b", "?", ">ib"}, {"3?!>1?!i1?!b", "?", "?"},
		{",ii", ",ii", ",ii"}, {",ib", ",ib", ",ib"}, {",!ib", ",ib", ",?b"}, {",i1?b", ",i?", ",ib"}, {",1?i!b", ",?b", ",i?"}, {"!,!i!b", ",ib", "?"}, {"3?,1?i?", "?", ",i?"}, {"3?!,??", "?", "?"},
		{"li", "li", "li"}, {"l?", "l?", "l?"}, {"l!i", "li", "l?"}, {"l1?i", "l?", "li"}, {"l1?!i", "l?", "l?"}, {"!l!i", "li", "?"}, {"!l?", "l?", "?"}, {"3?l1?i", "?", "li"}, {"3?!l?", "?", "?"}, {"ll!i", "lli", "ll?"}, {"l!l!i", "lli", "l?"},
		{"xii", "xi", "xi"}, {"x??", "x?", "x?"}, {"x!i1?i", "xi", "x?"}, {"x1?i!i", "x?", "xi"}, {"!x!i1?i", "xi", "?"}, {"3?x1?i!i", "?", "xi"}, {"3?!x??", "?", "?"},
		// What is read and what is set must be of one part at each end.
		{"xib", "", ""}, {"x!ii", "", ""}, {"x1?ii", "", ""}, {"xi!i", "", ""}, {"xi1?i", "", ""}, {"x!i?", "", ""}, {"x?!i", "", ""}, {"!x!i?", "", "?"}, {"3?x1?i?", "?", ""},
		// Failures within: the end that they go to is free, that they come from is not.
		{"l#1ib", "li", "li lb lt l? lli llb llt ll? lxi lxb lxt lx? l,i?"}, {"!l#1ib", "li", "?"}, {"l2?#1ib", "l?", "li lb lt l? lli llb llt ll? lxi lxb lxt lx? l,i?"},
		{">#1ibt", ">it >bt >tt >?t", ">it"}, {">t#1ib", ">ti", ">ti >tb >tt >t?"}, {",#1ibt", ",it", ",it ,bt ,tt ,?t"}, {"x#1ib?", "", "x?"}, {"x#1ibb", "", "xb"}, {"x#1ib#1bi", "xi", "xb"}, {"x#1ib#1ib", "xi", "xi"}, {"x1?i#1ib", "x?", "xi"},
	} {
		wantOnly(t, c.c, c.from, c.to)
	}
}

// A failure within a box, or below an argument, by hand: what is free is free to be any type.
func TestFitsOfFailuresWithin(t *testing.T) {
	wantFits(t, list(">#1ibt"), ">>iit", ">it", true)
	wantFits(t, list(">#1ibt"), ">it", ">>iit", false)
	wantFits(t, list("#1>i"), ">>iit", strings.Repeat("l", 63)+"i", true)
	wantFits(t, list("#1>i"), "?", "i", false)
	wantFits(t, list("2?#1>i"), ">??", "i", false)
	wantFits(t, list("2?>#1ib3?l?"), "?", ">il?", true)
	wantFits(t, list("2?>#1ib3?l?"), ">?l?", ">il?", false)
}

func TestFitsOfWhatIsNone(t *testing.T) {
	for _, none := range noTypes() {
		for _, c := range []string{"?", "i", "#1ib", "2?#1ib", "l?", "!i", "1?i"} {
			wantFits(t, list(c), none, none, false)
			for _, other := range []string{"?", "i", "l?"} {
				wantFits(t, list(c), none, other, false)
				wantFits(t, list(c), other, none, false)
			}
		}
	}
	all := allTypes(2)
	for _, c := range [][]api.Co{nil, list("l"), list("ii"), list("!?"), list("!li"), list("z"), list("#1ii"), {{Op: api.CoFail, Head: 'i', From: 'i', To: 'b'}}, {{Op: api.CoBase, Head: 'i', Label: 1}}, {{Op: api.CoAny, Head: '?'}}} {
		for _, from := range all {
			for _, to := range all {
				wantFits(t, c, from, to, false)
			}
		}
	}
	deep := strings.Repeat("l", 63)
	wantFits(t, list(deep+"i"), deep+"i", deep+"i", true)
	wantFits(t, list(deep+"!i"), deep+"i", deep+"?", true)
	wantFits(t, list(deep+"!i"), deep+"b", deep+"?", false)
	wantFits(t, list(deep+"li"), deep+"li", deep+"li", false)
}

// Everything of a small stock, from each type to each.
func TestFitsOfTheStock(t *testing.T) {
	_, all := stock()
	types := append([]string{}, allTypes(2)...)
	types = append(types, ">??", ">i?", ">?i", ">ii", ",ib", ",?b", ",i?", ">bi", ",bb", ",ii")
	fit := 0
	for _, c := range all {
		l := c.list()
		for _, from := range types {
			for _, to := range types {
				want := c.from(from) && c.to(to)
				wantFits(t, l, from, to, want)
				if want {
					fit++
				}
			}
		}
	}
	if fit < 400 {
		t.Errorf("too few fitted: %d of %d coercions", fit, len(all))
	}
}

func TestFitsOfManyCoercions(t *testing.T) {
	var d dice = 17
	count := map[bool]int{}
	for range 20000 {
		c, from, to := d.dealt()
		l := c.list()
		wantFits(t, l, from, to, true)
		for _, ends := range [][2]string{{d.near(from), to}, {from, d.near(to)}, {to, from}} {
			if len(ends[0]) > api.MaxType || len(ends[1]) > api.MaxType {
				continue
			}
			want := c.from(ends[0]) && c.to(ends[1])
			count[want]++
			wantFits(t, l, ends[0], ends[1], want)
		}
	}
	if count[true] < 5000 || count[false] < 5000 {
		t.Errorf("too few kinds were dealt: %v", count)
	}
}
