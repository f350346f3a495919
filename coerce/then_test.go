package coerce_test

import (
	"slices"
	"strings"
	"testing"

	"culprit/api"
	"culprit/coerce"
)

// 1: s is CoFail, or t is CoAny: s. s is CoAny: t.
func TestThenByFailuresAndIdentities(t *testing.T) {
	for _, fail := range []string{"#3ib", "7?#3ib", "#-3>l", "-7?#3xi"} {
		for _, any := range strings.Fields("? i !i 1?i b t >ii !>?? 1?>?? l? ,ii x?? #4bi #4ib 2?#4>i") {
			wantThen(t, fail, any, fail)
		}
	}
	for _, ending := range strings.Fields("? !i 1?!i !>?? !>1?i!b 1?!>?? !,?? !l!i !x!i1?i 1?!x?? #3ib 1?#3ib") {
		wantThen(t, ending, "?", ending)
	}
	for _, beginning := range strings.Fields("? 1?i 1?!i 1?>?? 1?>!i2?b 1?,?? 1?l1?i -1?x1?i!i 1?!x?? 1?#3ib") {
		wantThen(t, "?", beginning, beginning)
	}
	for _, s := range strings.Fields("i 1?i >ii 1?>?? ,?? l? l!i x??") {
		wantApart(t, s, "?")
	}
	for _, u := range strings.Fields("i !i >ii !>?? ,?? l? l1?i x?? #3ib #3>i") {
		wantApart(t, "?", u)
	}
}

// 2: s ends in ?, and the Heads are unlike.
func TestThenOfUnlikeHeads(t *testing.T) {
	wantThen(t, "!i", "7?b", "#7ib")
	wantThen(t, "5?!i", "7?b", "5?#7ib")
	wantThen(t, "-5?!i", "-7?!b", "-5?#-7ib")
	wantThen(t, "!i", "7?>??", "#7i>")
	wantThen(t, "!>??", "7?i", "#7>i")
	wantThen(t, "!>1?i!i", "7?,2?b2?b", "#7>,")
	wantThen(t, "5?!,??", "7?l?", "5?#7,l")
	wantThen(t, "!l!i", "7?x??", "#7lx")
	wantThen(t, "!x??", "7?l?", "#7xl")
	wantThen(t, "!t", "7?#3ib", "#7ti")
	wantThen(t, "5?!t", "7?#-3bi", "5?#7tb")
	for _, from := range strings.Split(heads, "") {
		for _, to := range strings.Split(heads, "") {
			s, u := "!"+groundText(from), "7?"+groundText(to)
			if from == to {
				wantThen(t, s, u, groundText(from))
				continue
			}
			wantThen(t, s, u, "#7"+from+to)
			wantThen(t, "5?"+s, u, "5?#7"+from+to)
			wantApart(t, groundText(from), groundText(to))
			wantApart(t, groundText(from), "#7"+to+from)
		}
	}
}

// groundText: the coercion of a ground to itself.
func groundText(head string) string {
	return head + strings.Repeat("?", kidsOf(list(head)[0].Op))
}

// 3: t is CoFail, of the head that s has: it, with s's Proj.
func TestThenOfAFailure(t *testing.T) {
	wantThen(t, "i", "#4ib", "#4ib")
	wantThen(t, "2?i", "#4ib", "2?#4ib")
	wantThen(t, "!i", "3?#4ib", "#4ib")
	wantThen(t, "2?!i", "3?#4ib", "2?#4ib")
	wantThen(t, "-2?!i", "3?#-4il", "-2?#-4il")
	wantThen(t, ">ii", "#4>b", "#4>b")
	wantThen(t, ">!i7?l?", "#4>b", "#4>b")
	wantThen(t, "2?>!i7?i", "#4>b", "2?#4>b")
	wantThen(t, "!>1?i!i", "3?#4>b", "#4>b")
	wantThen(t, "!l!i", "3?#4lx", "#4lx")
	wantThen(t, ",i#5ib", "#4,x", "#4,x")
	wantThen(t, "5?!x??", "3?#4xl", "5?#4xl")
	wantApart(t, "i", "3?#4ib")
	wantApart(t, "!i", "#4ib")
	wantApart(t, "i", "#4bi")
	wantApart(t, "1?i", "3?#4bi")
	wantApart(t, "!i", "#4bi")
	wantApart(t, ">ii", "#4,i")
	wantApart(t, "l?", "3?#4li")
}

// 4: one Head: s's Proj, t's Inj, and the kids.
func TestThenOfOneHead(t *testing.T) {
	wantThen(t, "i", "i", "i")
	wantThen(t, "!i", "7?i", "i")
	wantThen(t, "3?i", "i", "3?i")
	wantThen(t, "i", "!i", "!i")
	wantThen(t, "3?i", "!i", "3?!i")
	wantThen(t, "3?!i", "7?!i", "3?!i")
	wantThen(t, "3?!i", "7?i", "3?i")
	wantThen(t, "!i", "7?!i", "!i")

	wantThen(t, ">-5?i!i", ">!i7?i", ">ii")
	wantThen(t, ">-5?i!i", ">!b7?b", ">#-5bi#7ib")
	wantThen(t, ">!ii", ">1?i!i", ">1?!i!i")
	wantThen(t, "3?>!i1?b", ">ib", "3?>!i1?b")
	wantThen(t, "3?>!i1?b", "!>4?i!b", "3?!>4?!i1?!b")
	wantThen(t, "!>??", "7?>!i7?i", ">!i7?i")
	wantThen(t, ">#3it?", ">i?", ">#3it?")
	wantThen(t, ">i?", ">#3bi?", ">#3bi?")
	wantThen(t, ">?t", ">2?#3ibt", ">2?#3ibt")
	wantThen(t, ">>!iit", ">>1?iit", ">>iit")
	wantThen(t, ">>1?iit", ">>!iit", ">>1?!iit")

	wantThen(t, ",!i!b", ",7?i8?t", ",i#8bt")
	wantThen(t, ",3?ib", ",!i!b", ",3?!i!b")
	wantThen(t, "!,!i!i", "9?,9?b9?i", ",#9ibi")
	wantThen(t, "3?!,??", "9?!,9?!i?", "3?!,9?!i?")

	wantThen(t, "l!i", "l7?b", "l#7ib")
	wantThen(t, "l!i", "l7?i", "li")
	wantThen(t, "3?!l?", "4?l7?b", "3?l7?b")
	wantThen(t, "!l!i", "4?!l?", "!l!i")
	wantThen(t, "l#7ib", "li", "l#7ib")
	wantThen(t, "li", "l#7ib", "l#7ib")
	wantThen(t, "ll!i", "ll6?i", "lli")

	wantThen(t, "x!i-5?i", "x7?i!i", "xii")
	wantThen(t, "x!i-5?i", "x7?b!t", "x#7ib#-5ti")
	wantThen(t, "x!i-5?i", "x?7?!i", "x!i7?i")
	wantThen(t, "3?x1?i!i", "xii", "3?x1?i!i")
	wantThen(t, "3?x1?i!i", "!x!i2?i", "3?!x1?!i2?!i")
	wantThen(t, "xi#3bt", "xib", "xi#3bt")
	wantThen(t, "xii", "xi#3tb", "xi#3tb")
	wantThen(t, "xi1?i", "xi!b", "xi#1bi")
}

// What begins with something else than what is ahead ends with, at the root and below it.
func TestWhatDoesNotMeet(t *testing.T) {
	for _, c := range [][2]string{
		{"!i", "i"}, {"i", "7?i"}, {"i", "b"}, {"i", "!b"}, {"1?i", "7?i"}, {"!i", "!i"}, {"1?!i", "i"}, {"!i", "b"}, {"i", "7?b"}, {"i", "l?"}, {"!l?", "l?"}, {"l?", "7?l?"}, {">??", ",??"}, {"l?", "x??"},
		{"li", "lb"}, {"li", "l?"}, {"l?", "li"}, {"l!i", "li"}, {"li", "l7?i"}, {"l?", "l!i"}, {"li", "l#3bi"}, {"li", "l2?#3ib"}, {"l!i", "l#3ib"}, {"lli", "llb"}, {"l!l?", "ll?"},
		{",ii", ",bi"}, {",ii", ",ib"}, {",!ii", ",ii"}, {",i!i", ",ii"}, {",ii", ",i7?i"}, {",ii", ",7?ii"}, {",#3ibi", ",bb"}, {",i#3ib", ",bb"},
		{">ii", ">bi"}, {">ii", ">ib"}, {">ii", ">!ii"}, {">1?ii", ">ii"}, {">ii", ">i7?i"}, {">i!i", ">ii"}, {">#3ibi", ">bi"}, {">ii", ">#3bib"}, {">1?ii", ">1?ii"}, {">!ii", ">!ii"},
		{"xii", "xbi"}, {"xii", "xib"}, {"x!ii", "xii"}, {"xii", "x7?ii"}, {"xi1?i", "xii"}, {"xii", "xi!i"}, {"xi#3ib", "xib"}, {"xi1?i", "xi1?i"}, {"xi!i", "xi!i"},
	} {
		wantApart(t, c[0], c[1])
	}
	for _, c := range [][2]string{{"l#3ib", "lt"}, {">i#3ib", ">it"}, {">ii", ">#3bii"}, {">i?", ">#3bi?"}, {"x#3ibi", "xti"}, {"xii", "xi#3tb"}, {">1?ii", ">!ii"}, {"xi1?i", "xi!i"}, {"xi1?i", "xi!b"}} {
		if !coerce.Meet(list(c[0]), list(c[1])) {
			t.Errorf("P13.4: Meet(%s, %s) = false", c[0], c[1])
		}
	}
}

// Then's errors, in their order; Meet of what may not be.
func TestThenRefuses(t *testing.T) {
	refuses := func(s, u []api.Co, want api.Errno) {
		t.Helper()
		if coerce.Meet(s, u) {
			t.Errorf("P13.4: Meet(%s, %s) = true", told(s), told(u))
		}
		if got, e := coerce.Then(s, u); e != want || len(got) != 0 {
			t.Errorf("P13.5: Then(%s, %s) = %s, %d; want %d", told(s), told(u), told(got), e, want)
		}
	}
	wrong := [][]api.Co{nil, {}, list("l"), list("ii"), list("!?"), list("!li"), list("z"), list("#1ii"), list("!#1ib"), list("l!l5?i"), list(strings.Repeat("l", 64) + "i"), {{Op: api.CoFail, Head: 'i', From: 'i', To: 'b'}}, {{Op: api.CoBase, Head: 'i', Label: 1}}, {{Op: api.CoAny, Proj: 1}}}
	for _, w := range wrong {
		for _, s := range []string{"?", "i", "!i", "#1ib", "7?i", "l?"} {
			refuses(w, list(s), api.ErrShape)
			refuses(list(s), w, api.ErrShape)
		}
		refuses(w, w, api.ErrShape)
	}
	refuses(list("i"), list("b"), api.ErrMeet)
	refuses(list("?"), list("i"), api.ErrMeet)
}

// Every two of a small stock: what meets, and as what.
func TestEveryTwoOfTheStock(t *testing.T) {
	_, all := stock()
	lists := make([][]api.Co, len(all))
	for i, c := range all {
		lists[i] = c.list()
	}
	count := map[bool]int{}
	for i, s := range all {
		for j, u := range all {
			want := meet(s, u)
			count[want]++
			wantTogether(t, lists[i], lists[j], s, u, want)
		}
	}
	if count[true] < 10000 || count[false] < 10000 {
		t.Errorf("too few kinds were dealt: %v", count)
	}
}

func wantTogether(t *testing.T, l, m []api.Co, s, u co, want bool) {
	t.Helper()
	if got := coerce.Meet(l, m); got != want {
		t.Errorf("P13.4: Meet(%s, %s) = %v", told(l), told(m), got)
	}
	got, e := coerce.Then(l, m)
	switch {
	case !want && (e != api.ErrMeet || len(got) != 0):
		t.Errorf("P13.5: Then(%s, %s) = %s, %d; want ErrMeet", told(l), told(m), told(got), e)
	case want && (e != api.OK || !slices.Equal(got, then(s, u).list())):
		t.Errorf("P13.5: Then(%s, %s) = %s, %d; want %s", told(l), told(m), told(got), e, told(then(s, u).list()))
	}
}

// Many that meet, and many of which one is changed.
func TestThenOfManyCoercions(t *testing.T) {
	var d dice = 31
	count := map[bool]int{}
	for range 15000 {
		ends := d.chain(3)
		s, u := d.between(ends[0], ends[1], d.below(4)), d.between(ends[1], ends[2], d.below(4))
		if !meet(s, u) {
			t.Fatalf("what is dealt does not meet: %s, %s", told(s.list()), told(u.list()))
		}
		wantTogether(t, s.list(), u.list(), s, u, true)
		other := d.between(d.chain(1)[0], ends[2], d.below(4))
		if d.coin() {
			if near := d.near(ends[1]); len(near) <= api.MaxType {
				other = d.between(near, ends[2], d.below(4))
			}
		}
		count[meet(s, other)]++
		wantTogether(t, s.list(), other.list(), s, other, meet(s, other))
		wantTogether(t, other.list(), s.list(), other, s, meet(other, s))
	}
	if count[true] < 2000 || count[false] < 2000 {
		t.Errorf("too few kinds were dealt: %v", count)
	}
}

// As high as may be, and wide ones.
func TestThenOfTheHighest(t *testing.T) {
	deep := strings.Repeat("l", 63)
	wantThen(t, deep+"!i", deep+"7?i", deep+"i")
	wantThen(t, deep+"!i", deep+"7?b", deep+"#7ib")
	wantThen(t, strings.Repeat("!l", 63)+"!i", strings.Repeat("7?l", 63)+"7?i", deep+"i")
	wantThen(t, strings.Repeat("!l", 40)+"!i", strings.Repeat("7?l", 20)+"7?x??", strings.Repeat("l", 20)+"#7lx")
	wantThen(t, "!"+strings.Repeat("l!", 62)+"l?", strings.Repeat("7?l", 63)+"8?b", strings.Repeat("l", 63)+"8?b")
	wantApart(t, deep+"i", deep+"b")
	// Each argument turns the two about: after 63 of them the second one stands ahead.
	turns, ends := strings.Repeat(">", 63), strings.Repeat("i", 63)
	wantThen(t, turns+"!i"+ends, turns+"7?i"+ends, turns+"7?!i"+ends)
	wantThen(t, turns+"7?i"+ends, turns+"!i"+ends, turns+"i"+ends)
	wantThen(t, turns[1:]+"!i"+ends[1:], turns[1:]+"7?i"+ends[1:], turns[1:]+"i"+ends[1:])
	wantThen(t, turns[1:]+"7?i"+ends[1:], turns[1:]+"!i"+ends[1:], turns[1:]+"7?!i"+ends[1:])
}
