package relate_test

import (
	"slices"
	"strings"
	"testing"

	"culprit/api"
	"culprit/relate"
	"culprit/types"
)

func wantTwo(t *testing.T, s, u string, consistent, precise bool) {
	t.Helper()
	if got := relate.Consistent(s, u); got != consistent {
		t.Errorf("P3.1: Consistent(%.80q, %.80q) = %v", s, u, got)
	}
	if got := relate.Precise(s, u); got != precise {
		t.Errorf("P3.1: Precise(%.80q, %.80q) = %v", s, u, got)
	}
}

func wantMeet(t *testing.T, s, u, want string, e api.Errno) {
	t.Helper()
	if got, gotE := relate.Meet(s, u); got != want || gotE != e {
		t.Errorf("P3.2: Meet(%.80q, %.80q) = %q, %d; want %q, %d", s, u, got, gotE, want, e)
	}
}

func wantJoin(t *testing.T, s, u, want string, e api.Errno) {
	t.Helper()
	if got, gotE := relate.Join(s, u); got != want || gotE != e {
		t.Errorf("P3.2: Join(%.80q, %.80q) = %q, %d; want %q, %d", s, u, got, gotE, want, e)
	}
}

func wantMatch(t *testing.T, s string, head byte, want []string, ok bool) {
	t.Helper()
	if got, gotOk := relate.Match(s, head); !slices.Equal(got, want) || gotOk != ok {
		t.Errorf("P3.3: Match(%.80q, %q) = %q, %v; want %q, %v", s, head, got, gotOk, want, ok)
	}
}

func wantLooser(t *testing.T, s string, want ...string) {
	t.Helper()
	if got := relate.Looser(s); !slices.Equal(got, want) {
		t.Errorf("P3.4: Looser(%.80q) = %q; want %q", s, got, want)
	}
}

func TestTheTable(t *testing.T) {
	wantTwo(t, "i", "?", true, true)
	wantTwo(t, "i", "b", false, false)
	wantTwo(t, ">i?", ">?b", true, false)
	wantTwo(t, ">ii", ",ii", false, false)
	wantTwo(t, "l?", "?", true, true)
	wantTwo(t, "i", "zz", false, false)
	wantTwo(t, ">ii", ">?i", true, true)
	wantTwo(t, ">?i", ">ii", true, false)
	wantTwo(t, "?", "?", true, true)
	wantTwo(t, ">?i", ">i?", true, false)

	wantMeet(t, ">i?", ">?b", ">ib", api.OK)
	wantMeet(t, "?", "?", "?", api.OK)
	wantMeet(t, "i", "b", "", api.ErrMeet)
	wantMeet(t, ">i", "i", "", api.ErrShape)
	a := strings.Repeat("l", 32) + "b"
	wantMeet(t, ">?"+a, ">"+a+"?", "", api.ErrLarge)

	wantJoin(t, ">ib", ">ii", ">i?", api.OK)
	wantJoin(t, "li", "xi", "?", api.OK)
	wantJoin(t, ">?b", ">ib", ">?b", api.OK)

	wantMatch(t, ">ib", '>', []string{"i", "b"}, true)
	wantMatch(t, "?", ',', []string{"?", "?"}, true)
	wantMatch(t, "li", 'x', nil, false)
	wantMatch(t, "?", 'i', nil, false)

	wantLooser(t, ">ii", ">?i", ">i?")
	wantLooser(t, ">??", "?")
	wantLooser(t, ",li?", ",l??")
	wantLooser(t, "?")
}

// wantByWords holds what is told of two types against the chapter's words, followed by themselves; it answers whether the meet is one, and if not, why.
func wantByWords(t *testing.T, s, u string) api.Errno {
	t.Helper()
	f, g := formOf(s), formOf(u)
	wantTwo(t, s, u, consistent(f, g), precise(f, g))
	wantJoin(t, s, u, join(f, g).text(), api.OK)
	if !consistent(f, g) {
		wantMeet(t, s, u, "", api.ErrMeet)
		return api.ErrMeet
	}
	if whole := meet(f, g).text(); len(whole) <= api.MaxType {
		wantMeet(t, s, u, whole, api.OK)
		return api.OK
	}
	wantMeet(t, s, u, "", api.ErrLarge)
	return api.ErrLarge
}

func TestEveryTwoShortTypes(t *testing.T) {
	all := allTypes(4)
	if len(all) != 284 {
		t.Fatalf("%d types of at most 4 letters; want 284", len(all))
	}
	for _, s := range all {
		for _, u := range all {
			wantByWords(t, s, u)
		}
	}
}

func TestManyTwoLargeTypes(t *testing.T) {
	var d dice = 7
	told := map[api.Errno]int{}
	morePrecise := 0
	for range 10000 {
		s, u := d.related()
		told[wantByWords(t, s, u)]++
		if relate.Precise(s, u) && u != "?" && s != u {
			morePrecise++
		}
	}
	if told[api.OK] < 1000 || told[api.ErrMeet] < 100 || told[api.ErrLarge] < 100 || morePrecise < 100 {
		t.Errorf("too few kinds of types were dealt: %v, %d more precise", told, morePrecise)
	}
}

// Of functions too nothing is turned round: the part that is taken goes as the part that is given.
func TestNothingIsTurnedRound(t *testing.T) {
	wantTwo(t, ">i?", ">??", true, true)
	wantTwo(t, ">?i", ">??", true, true)
	wantTwo(t, ">??", ">i?", true, false)
	wantTwo(t, ">>i??", ">>???", true, true)
	wantTwo(t, ">>???", ">>i??", true, false)
	wantTwo(t, "xi", "x?", true, true)
	wantTwo(t, "x?", "xi", true, false)
	wantJoin(t, ">>ib?", ">>it?", ">>i??", api.OK)
	wantMeet(t, ">>i??", ">>?b?", ">>ib?", api.OK)
}

// One place, however deep or far to the right, decides.
func TestOnePlaceDecides(t *testing.T) {
	deep := strings.Repeat("lx", 31) + "l"
	wantTwo(t, deep+"i", deep+"i", true, true)
	wantTwo(t, deep+"i", deep+"?", true, true)
	wantTwo(t, deep+"?", deep+"i", true, false)
	wantTwo(t, deep+"i", deep+"b", false, false)
	wantMeet(t, deep+"i", deep+"?", deep+"i", api.OK)
	wantMeet(t, deep+"i", deep+"b", "", api.ErrMeet)
	wantJoin(t, deep+"i", deep+"b", deep+"?", api.OK)

	long := strings.Repeat(",t", 31)
	wantTwo(t, long+"i", long+"?", true, true)
	wantTwo(t, long+"i", long+"b", false, false)
	wantMeet(t, "?", long+"i", long+"i", api.OK)
	wantMeet(t, long+"b", "?", long+"b", api.OK)
	wantJoin(t, long+"i", long+"b", long+"?", api.OK)
	wantTwo(t, ">i"+long[:60]+"i", ">b"+long[:60]+"i", false, false)
	wantTwo(t, ">"+long[:60]+"ii", ">"+long[:60]+"ib", false, false)
	wantJoin(t, ">i"+long[:60]+"i", ">b"+long[:60]+"i", ">?"+long[:60]+"i", api.OK)
}

func TestMeetLimit(t *testing.T) {
	for n := range 60 {
		left, right := strings.Repeat("l", n)+"i", strings.Repeat("x", 61-n)+"b"
		whole := "," + left + right // 64 letters
		wantMeet(t, ",?"+right, ","+left+"?", whole, api.OK)
		wantMeet(t, whole, whole, whole, api.OK)
		wantMeet(t, ",?x"+right, ","+left+"?", "", api.ErrLarge)
		wantMeet(t, ","+left+"?", ",?x"+right, "", api.ErrLarge)
		wantMeet(t, ",?"+right, ",l"+left+"?", "", api.ErrLarge)
		wantMeet(t, "x>?"+right, "x>"+left+"?", "", api.ErrLarge)
	}
	part := strings.Repeat("x", 30) + "t"
	wantMeet(t, "l,?"+part, "l,"+part+"?", "l,"+part+part, api.OK) // 64 letters
	wantMeet(t, "ll,?"+part, "ll,"+part+"?", "", api.ErrLarge)     // a part of 64 letters, and what holds it 65
}

// P3.2 names ErrMeet ahead of ErrLarge, wherever the places are that do not agree.
func TestWhatDoesNotMeetIsNotLarge(t *testing.T) {
	a := strings.Repeat("l", 30) + "i"
	wantMeet(t, ",>?"+a+"i", ",>"+a+"?i", "", api.ErrLarge)
	wantMeet(t, ",>?"+a+"i", ",>"+a+"?b", "", api.ErrMeet)
	wantMeet(t, ",i>?"+a, ",b>"+a+"?", "", api.ErrMeet)
	wantMeet(t, ",,?"+a+"l?", ",,"+a+"?x?", "", api.ErrMeet)
}

func TestNoTypesInEitherPlace(t *testing.T) {
	good := []string{"?", "i", "l?", ">ib", strings.Repeat("l", 63) + "i"}
	for _, none := range noTypes() {
		e, _ := types.Check(none)
		if e == api.OK {
			t.Fatalf("%q is a type", none)
		}
		for _, s := range good {
			wantTwo(t, none, s, false, false)
			wantTwo(t, s, none, false, false)
			wantMeet(t, none, s, "", e)
			wantMeet(t, s, none, "", e)
			wantJoin(t, none, s, "", e)
			wantJoin(t, s, none, "", e)
		}
		for _, other := range noTypes() {
			wantTwo(t, none, other, false, false)
			wantMeet(t, none, other, "", e)
			wantJoin(t, none, other, "", e)
		}
		wantLooser(t, none)
		for head := range 256 {
			wantMatch(t, none, byte(head), nil, false)
		}
	}
	long := strings.Repeat("x", 70)
	wantMeet(t, "z", long, "", api.ErrShape)
	wantMeet(t, long, "z", "", api.ErrLarge)
	wantJoin(t, "z", long, "", api.ErrShape)
	wantJoin(t, long, "z", "", api.ErrLarge)
}

func TestMatchOfEveryHead(t *testing.T) {
	var d dice = 2
	all := allTypes(4)
	for range 200 {
		all = append(all, d.typeOf(api.MaxType))
	}
	for _, s := range all {
		f := formOf(s)
		for b := range 256 {
			head := byte(b)
			switch {
			case f.head == head:
				var parts []string
				for _, part := range f.parts {
					parts = append(parts, part.text())
				}
				wantMatch(t, s, head, parts, true)
			case s == "?" && arity(head) > 0:
				wantMatch(t, s, head, []string{"?", "?"}[:arity(head)], true)
			default:
				wantMatch(t, s, head, nil, false)
			}
		}
	}
	wantMatch(t, "?", '>', []string{"?", "?"}, true)
	wantMatch(t, "?", 'l', []string{"?"}, true)
	wantMatch(t, "?", 'x', []string{"?"}, true)
	wantMatch(t, "?", '?', nil, true)
	wantMatch(t, "t", 't', nil, true)
	wantMatch(t, "x>ib", 'x', []string{">ib"}, true)
}

func TestLooser(t *testing.T) {
	wantLooser(t, "i", "?")
	wantLooser(t, "x?", "?")
	wantLooser(t, "lli", "ll?")
	wantLooser(t, ">>ib,?x?", ">>?b,?x?", ">>i?,?x?", ">>ib,??")
	wantLooser(t, ",l?>ib", ",?>ib", ",l?>?b", ",l?>i?")
	wantLooser(t, strings.Repeat("l", 63)+"t", strings.Repeat("l", 63)+"?")
	wantLooser(t, strings.Repeat("l", 62)+"x?", strings.Repeat("l", 62)+"?")
	for _, s := range allTypes(5) {
		wantLooser(t, s, looser(s)...)
	}
	var d dice = 13
	for range 2000 {
		s := d.typeOf(api.MaxType)
		wantLooser(t, s, looser(s)...)
	}
}

// R5, R6: each list that is answered is its own, spare room too.
func TestListsAreTheirOwn(t *testing.T) {
	for _, s := range []string{"?", ",ib"} {
		one, _ := relate.Match(s, ',')
		other, _ := relate.Match(s, ',')
		want := slices.Clone(other)
		clear(one[:cap(one)])
		if !slices.Equal(other, want) {
			t.Errorf("R5: two answers share memory: %q", other)
		}
		wantMatch(t, s, ',', want, true)
	}
	one, other := relate.Looser(">ib"), relate.Looser(">ib")
	clear(one[:cap(one)])
	if !slices.Equal(other, []string{">?b", ">i?"}) {
		t.Errorf("R5: two answers share memory: %q", other)
	}
	wantLooser(t, ">ib", ">?b", ">i?")
}

// R1, R2: whatever bytes it is given, a call ends; beside an error or a false nothing is told.
func TestAnyBytes(t *testing.T) {
	var d dice = 3
	text := func() string {
		b := make([]byte, d.below(12))
		for i := range b {
			b[i] = byte(d.below(256))
			if d.below(8) > 0 {
				b[i] = letters[d.below(len(letters))]
			}
		}
		return string(b)
	}
	for range 50000 {
		s, u, head := text(), text(), byte(d.below(256))
		sNone, _ := types.Check(s)
		uNone, _ := types.Check(u)
		if sNone == api.OK && uNone == api.OK {
			wantByWords(t, s, u)
			continue
		}
		first := sNone
		if first == api.OK {
			first = uNone
		}
		wantTwo(t, s, u, false, false)
		wantMeet(t, s, u, "", first)
		wantJoin(t, s, u, "", first)
		if parts, ok := relate.Match(s, head); !ok && len(parts) > 0 || ok && sNone != api.OK {
			t.Errorf("R2: Match(%q, %q) = %q, %v", s, head, parts, ok)
		}
		if sNone != api.OK {
			wantLooser(t, s)
		}
	}
}
