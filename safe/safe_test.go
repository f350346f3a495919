package safe_test

import (
	"strings"
	"testing"

	"culprit/api"
	"culprit/safe"
	"culprit/types"
)

// wantSafe asks all three calls: they tell the same.
func wantSafe(t *testing.T, from, to string, plus, minus bool) {
	t.Helper()
	if got := safe.Plus(from, to); got != plus {
		t.Errorf("P4.1: Plus(%.80q, %.80q) = %v", from, to, got)
	}
	if got := safe.Minus(from, to); got != minus {
		t.Errorf("P4.2: Minus(%.80q, %.80q) = %v", from, to, got)
	}
	if gotPlus, gotMinus := safe.Sides(from, to); gotPlus != plus || gotMinus != minus {
		t.Errorf("P4.3: Sides(%.80q, %.80q) = %v, %v", from, to, gotPlus, gotMinus)
	}
}

func TestTheTable(t *testing.T) {
	wantSafe(t, "i", "?", true, true)
	wantSafe(t, "?", "i", false, true)
	wantSafe(t, ">ii", "?", true, false)
	wantSafe(t, ">??", "?", true, true)
	wantSafe(t, "?", ">ii", false, true)
	wantSafe(t, "i", "b", false, true)
	wantSafe(t, ">ii", ">??", true, false)
	wantSafe(t, ">??", ">ii", false, true)
	wantSafe(t, ">i?", ">?i", false, false)
	wantSafe(t, "xi", "x?", true, false)
	wantSafe(t, "x?", "xi", false, true)
	wantSafe(t, ",i?", ",?i", false, true)
	wantSafe(t, "l?", "li", false, true)
	wantSafe(t, ">", "i", false, false)
	wantSafe(t, "i", "ii", false, false)
}

// Each row of the table by heads, with parts that make the difference.
func TestEveryRow(t *testing.T) {
	for _, leaf := range []string{"i", "b", "t", "?"} {
		wantSafe(t, leaf, leaf, true, true)
		wantSafe(t, leaf, "?", true, true)
	}
	for _, some := range []string{"i", "b", "t", ">??", ",??", "l?", "x?"} {
		wantSafe(t, some, "?", true, true)
		wantSafe(t, "?", some, false, true)
		for _, other := range []string{"i", "b", "t", ">??", ",??", "l?", "x?"} {
			wantSafe(t, some, other, some == other, true)
		}
	}
	wantSafe(t, ">i?", "?", true, false)
	wantSafe(t, ">?i", "?", true, true)
	wantSafe(t, ",ii", "?", true, true)
	wantSafe(t, "li", "?", true, true)
	wantSafe(t, "xi", "?", true, false)
	wantSafe(t, "?", ">i?", false, true)
	wantSafe(t, "?", "xi", false, true)

	wantSafe(t, ">?b", ">ib", true, true)
	wantSafe(t, ">ib", ">?b", true, false)
	wantSafe(t, ">i?", ">ib", false, true)
	wantSafe(t, ">ib", ">i?", true, true)
	wantSafe(t, ">ib", ">bb", true, false)
	wantSafe(t, ">bi", ">bb", false, true)

	wantSafe(t, ",?b", ",ib", false, true)
	wantSafe(t, ",i?", ",ib", false, true)
	wantSafe(t, ",>ib?", ",>?b?", true, false)
	wantSafe(t, ",?>ib", ",?>?b", true, false)

	wantSafe(t, "li", "l?", true, true)
	wantSafe(t, "l>ib", "l>?b", true, false)

	wantSafe(t, "xi", "xb", false, false)
	wantSafe(t, "xi", "li", false, true)
}

// Where the sides change places, and change back.
func TestTheSidesChangePlaces(t *testing.T) {
	wantSafe(t, ">>?bt", ">>ibt", false, true)
	wantSafe(t, ">>ibt", ">>?bt", true, true)
	wantSafe(t, ">>b?t", ">>bit", true, true)
	wantSafe(t, ">>bit", ">>b?t", true, false)
	wantSafe(t, ">t>?b", ">t>ib", true, true)
	wantSafe(t, ">t>ib", ">t>?b", true, false)
	wantSafe(t, ">>>ittt", ">>>?ttt", true, false)
	wantSafe(t, ">>>?ttt", ">>>ittt", true, true)

	wantSafe(t, "x>ib", "x>?b", true, false)
	wantSafe(t, "x>?b", "x>ib", false, true)
	wantSafe(t, ">xib", ">x?b", true, false)
	wantSafe(t, ">x?b", ">xib", false, true)
	wantSafe(t, "xx?", "xxi", false, true)
	wantSafe(t, "xxi", "xx?", true, false)
	wantSafe(t, "x>?b", "x>i?", false, false)
	wantSafe(t, "x,?i", "x,b?", false, false)
	wantSafe(t, "xl?", "?", true, false)
	wantSafe(t, "x>??", "?", true, false)
	wantSafe(t, ">>i??", "?", true, false)
	wantSafe(t, ",l?x?", "?", true, true)
	wantSafe(t, ",lix?", "?", true, true)
	wantSafe(t, ",l?xb", "?", true, false)
}

// wantByTable holds the answers against the chapter's table; it answers them.
func wantByTable(t *testing.T, k table, from, to string) [2]bool {
	t.Helper()
	plus, minus := k.safe(from, to, false), k.safe(from, to, true)
	wantSafe(t, from, to, plus, minus)
	return [2]bool{plus, minus}
}

func TestEveryTwoShortTypes(t *testing.T) {
	k, all := table{}, allTypes(4)
	if len(all) != 284 {
		t.Fatalf("%d types of at most 4 letters; want 284", len(all))
	}
	for _, s := range all {
		for _, u := range all {
			wantByTable(t, k, s, u)
		}
	}
}

func TestManyTwoLargeTypes(t *testing.T) {
	var d dice = 7
	told := map[[2]bool]int{}
	for range 20000 {
		s, u := d.related()
		told[wantByTable(t, table{}, s, u)]++
	}
	for _, sides := range [][2]bool{{true, true}, {true, false}, {false, true}, {false, false}} {
		if told[sides] < 1000 {
			t.Errorf("too few kinds of types were dealt: %v", told)
		}
	}
}

// Types of MaxType letters: one place, however deep or far to the right, decides. (To go both ways anew at each box would not end.)
func TestTypesOfMaxTypeLetters(t *testing.T) {
	boxes := strings.Repeat("x", 63)
	wantSafe(t, boxes+"i", boxes+"i", true, true)
	wantSafe(t, boxes+"?", boxes+"?", true, true)
	wantSafe(t, boxes+"i", boxes+"?", true, false)
	wantSafe(t, boxes+"?", boxes+"i", false, true)
	wantSafe(t, boxes+"i", boxes+"b", false, false)
	wantSafe(t, boxes+"i", "?", true, false)
	wantSafe(t, "?", boxes+"i", false, true)

	turns := strings.Repeat("x>", 21) // and behind it what the functions answer
	wantSafe(t, turns+"i"+strings.Repeat("t", 21), turns+"?"+strings.Repeat("t", 21), true, false)
	wantSafe(t, turns+"?"+strings.Repeat("t", 21), turns+"i"+strings.Repeat("t", 21), false, true)
	wantSafe(t, turns+"i"+strings.Repeat("t", 21), turns+"i"+strings.Repeat("t", 21), true, true)

	lists := strings.Repeat("l", 63)
	wantSafe(t, lists+"?", lists+"i", false, true)
	wantSafe(t, lists+"i", lists+"?", true, true)
	wantSafe(t, lists+"i", "?", true, true)

	pairs := strings.Repeat(",t", 31)
	wantSafe(t, pairs+"li", pairs+"l?", true, true)
	wantSafe(t, pairs+"l?", pairs+"li", false, true)
	wantSafe(t, pairs+"xi", pairs+"x?", true, false)

	for deep := range 32 {
		s := strings.Repeat(">", deep) + "i" + strings.Repeat("t", deep)
		u := strings.Repeat(">", deep) + "?" + strings.Repeat("t", deep)
		wantSafe(t, s, u, true, deep%2 == 0)
		wantSafe(t, u, s, deep%2 == 1, true)
	}
	k := table{}
	for _, s := range []string{boxes + "i", boxes + "?", strings.Repeat("xl", 31) + "x?", strings.Repeat("xl", 31) + "xb", turns + strings.Repeat("?", 22), strings.Repeat(">x?", 21) + "?", strings.Repeat(">xi", 21) + "i"} {
		for _, u := range []string{"?", boxes + "b", boxes + "?", strings.Repeat("xl", 31) + "xi", turns + strings.Repeat("i", 22), strings.Repeat(">x?", 21) + "i"} {
			wantByTable(t, k, s, u)
			wantByTable(t, k, u, s)
		}
	}
}

func TestNoTypesInEitherPlace(t *testing.T) {
	for _, none := range noTypes() {
		if e, _ := types.Check(none); e == api.OK {
			t.Fatalf("%q is a type", none)
		}
		for _, s := range []string{"?", "i", "x?", ">ib", strings.Repeat("l", 63) + "i"} {
			wantSafe(t, none, s, false, false)
			wantSafe(t, s, none, false, false)
		}
		for _, other := range noTypes() {
			wantSafe(t, none, other, false, false)
		}
	}
}

// R1: whatever bytes it is given, a call ends.
func TestAnyBytes(t *testing.T) {
	var d dice = 3
	text := func() string {
		b := make([]byte, d.below(12))
		for i := range b {
			b[i] = byte(d.below(256))
			if d.below(8) > 0 {
				b[i] = letters[d.below(len(letters))]
			}
		}
		return string(b)
	}
	k := table{}
	for range 50000 {
		s, u := text(), text()
		sNone, _ := types.Check(s)
		uNone, _ := types.Check(u)
		if sNone == api.OK && uNone == api.OK {
			wantByTable(t, k, s, u)
			continue
		}
		wantSafe(t, s, u, false, false)
	}
}
