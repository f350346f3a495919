package types_test

import (
	"slices"
	"strings"
	"testing"

	"culprit/api"
	"culprit/types"
)

const letters = "ibt?>,lx"

// arity: how many parts each letter has, as the chapter's section Words tells it.
func arity(head byte) int {
	return map[byte]int{'l': 1, 'x': 1, '>': 2, ',': 2}[head]
}

// typeAt goes by the chapter's words: a letter and behind it its parts. It answers where the type at from ends, or where it fails.
func typeAt(t string, from int) (end int, ok bool) {
	if from == len(t) || strings.IndexByte(letters, t[from]) < 0 {
		return from, false
	}
	end = from + 1
	for range arity(t[from]) {
		if end, ok = typeAt(t, end); !ok {
			return end, false
		}
	}
	return end, true
}

// eachText hands out every text over an alphabet that has at most long letters.
func eachText(alphabet string, long int, see func(string)) {
	var grow func(string)
	grow = func(s string) {
		see(s)
		if len(s) == long {
			return
		}
		for i := range len(alphabet) {
			grow(s + alphabet[i:i+1])
		}
	}
	grow("")
}

func wantCheck(t *testing.T, s string, e api.Errno, at int) {
	t.Helper()
	if gotE, gotAt := types.Check(s); gotE != e || gotAt != at {
		t.Errorf("P2.1: Check(%.80q) = %d, %d; want %d, %d", s, gotE, gotAt, e, at)
	}
}

func TestCheckOfTheTable(t *testing.T) {
	wantCheck(t, "i", api.OK, 0)
	wantCheck(t, ">il?", api.OK, 0)
	wantCheck(t, "", api.ErrShape, 0)
	wantCheck(t, ">i", api.ErrShape, 2)
	wantCheck(t, "ii", api.ErrShape, 1)
	wantCheck(t, "z", api.ErrShape, 0)
	wantCheck(t, ">iz", api.ErrShape, 2)
	wantCheck(t, strings.Repeat("l", 65)+"i", api.ErrLarge, 64)
}

func TestCheckOfEveryShortText(t *testing.T) {
	eachText(letters+"z", 5, func(s string) {
		end, ok := typeAt(s, 0)
		switch {
		case ok && end == len(s):
			wantCheck(t, s, api.OK, 0)
		default:
			wantCheck(t, s, api.ErrShape, end)
		}
	})
}

func TestCheckOfEveryByte(t *testing.T) {
	for b := range 256 {
		s := string([]byte{byte(b)})
		if strings.IndexByte(letters, byte(b)) >= 0 {
			wantCheck(t, "i"+s, api.ErrShape, 1)
			continue
		}
		wantCheck(t, s, api.ErrShape, 0)
		wantCheck(t, ">"+s+"i", api.ErrShape, 1)
		wantCheck(t, ",l?"+s, api.ErrShape, 3)
		wantCheck(t, "i"+s, api.ErrShape, 1)
	}
	wantCheck(t, "é", api.ErrShape, 0)
	wantCheck(t, ">ié", api.ErrShape, 2)
}

func TestCheckLimit(t *testing.T) {
	wantCheck(t, strings.Repeat("l", 62)+"i", api.OK, 0)
	wantCheck(t, strings.Repeat("l", 63)+"i", api.OK, 0)
	wantCheck(t, strings.Repeat("l", 64)+"i", api.ErrLarge, 64)
	wantCheck(t, strings.Repeat(">i", 31)+"i", api.OK, 0)
	wantCheck(t, "x"+strings.Repeat(",", 31)+strings.Repeat("t", 32), api.OK, 0)
	wantCheck(t, strings.Repeat(",i", 32)+"i", api.ErrLarge, 64)

	wantCheck(t, strings.Repeat("x", 63), api.ErrShape, 63)
	wantCheck(t, strings.Repeat("x", 64), api.ErrShape, 64)
	wantCheck(t, strings.Repeat("i", 64), api.ErrShape, 1)
	for _, s := range []string{"x", "i", "z", ">", "\xff"} { // ahead of ErrShape
		wantCheck(t, strings.Repeat(s, 65), api.ErrLarge, 64)
		wantCheck(t, strings.Repeat(s, 1<<16), api.ErrLarge, 64)
	}
}

// noTypes: of each way not to be a type one or some.
func noTypes() []string {
	return []string{"", "z", "ii", "i,", ">", ">i", ">iz", "l", "xx", "li?", ",i", ",iii", " i", "i ", "I", "int", "\xff", "é", "i\x00",
		strings.Repeat("l", 64), strings.Repeat("l", 64) + "i", strings.Repeat("i", 65)}
}

func TestOfNoTypeNothingIsTold(t *testing.T) {
	for _, s := range noTypes() {
		words, _ := types.Words(s)
		if types.Head(s) != 0 || len(types.Parts(s)) != 0 || types.Ground(s) != "" || words != "" || types.Static(s) || types.Height(s) != 0 {
			t.Errorf("P2.2: of %.80q: %d, %q, %q, %q, %v, %d", s, types.Head(s), types.Parts(s), types.Ground(s), words, types.Static(s), types.Height(s))
		}
	}
}

func TestTellings(t *testing.T) {
	deep := strings.Repeat("l", 63)
	wide := strings.Repeat(",", 31) + strings.Repeat("i", 32)
	for _, c := range []struct {
		t      string
		parts  []string
		ground string
		static bool
		height int
	}{
		{"i", nil, "i", true, 1},
		{"b", nil, "b", true, 1},
		{"t", nil, "t", true, 1},
		{"?", nil, "", false, 1},
		{"li", []string{"i"}, "l?", true, 2},
		{"l?", []string{"?"}, "l?", false, 2},
		{"xt", []string{"t"}, "x?", true, 2},
		{"xlb", []string{"lb"}, "x?", true, 3},
		{">ib", []string{"i", "b"}, ">??", true, 2},
		{">??", []string{"?", "?"}, ">??", false, 2},
		{">>ii?", []string{">ii", "?"}, ">??", false, 3},
		{">?>ii", []string{"?", ">ii"}, ">??", false, 3},
		{">il?", []string{"i", "l?"}, ">??", false, 3},
		{",il?", []string{"i", "l?"}, ",??", false, 3},
		{",>ib,xtlb", []string{">ib", ",xtlb"}, ",??", true, 4},
		{">>>iiii", []string{">>iii", "i"}, ">??", true, 4},
		{",lllxi?", []string{"lllxi", "?"}, ",??", false, 6},
		{deep + "t", []string{deep[1:] + "t"}, "l?", true, 64},
		{deep + "?", []string{deep[1:] + "?"}, "l?", false, 64},
		{wide, []string{wide[1:62], "i"}, ",??", true, 32},
	} {
		if types.Head(c.t) != c.t[0] {
			t.Errorf("P2.2: Head(%q) = %q", c.t, types.Head(c.t))
		}
		if got := types.Parts(c.t); !slices.Equal(got, c.parts) {
			t.Errorf("P2.2: Parts(%q) = %q; want %q", c.t, got, c.parts)
		}
		if got := types.Ground(c.t); got != c.ground {
			t.Errorf("P2.2: Ground(%q) = %q; want %q", c.t, got, c.ground)
		}
		if got := types.Static(c.t); got != c.static {
			t.Errorf("P2.2: Static(%q) = %v", c.t, got)
		}
		if got := types.Height(c.t); got != c.height {
			t.Errorf("P2.2: Height(%q) = %d; want %d", c.t, got, c.height)
		}
	}
}

func wantMake(t *testing.T, want string, e api.Errno, head byte, parts ...string) {
	t.Helper()
	if got, gotE := types.Make(head, parts...); got != want || gotE != e {
		t.Errorf("P2.3: Make(%q, %.80q) = %q, %d; want %q, %d", head, parts, got, gotE, want, e)
	}
}

func TestMakeOfTheTable(t *testing.T) {
	wantMake(t, "li", api.OK, 'l', "i")
	wantMake(t, "", api.ErrArg, 'l')
	wantMake(t, "", api.ErrArg, 'z')
	wantMake(t, "", api.ErrShape, 'l', "ii")
	wantMake(t, "", api.ErrLarge, '>', "i", strings.Repeat("l", 62)+"i")
}

func TestMakeOfEveryHead(t *testing.T) {
	for b := range 256 {
		head := byte(b)
		for n := range 4 {
			parts := []string{"i", "l?", ">ib"}[:n]
			if strings.IndexByte(letters, head) >= 0 && arity(head) == n {
				wantMake(t, string([]byte{head})+strings.Join(parts, ""), api.OK, head, parts...)
			} else {
				wantMake(t, "", api.ErrArg, head, parts...)
			}
		}
	}
}

func TestMakeRefusesParts(t *testing.T) {
	for _, s := range noTypes() {
		e, _ := types.Check(s)
		if e == api.OK {
			t.Errorf("P2.1: %q is no type", s)
		}
		wantMake(t, "", e, 'l', s)
		wantMake(t, "", e, 'x', s)
		wantMake(t, "", e, '>', s, "i")
		wantMake(t, "", e, ',', "i", s)
		wantMake(t, "", api.ErrArg, 'i', s)
		wantMake(t, "", api.ErrArg, 'z', s)
		wantMake(t, "", api.ErrArg, '>', s)
		wantMake(t, "", api.ErrArg, ',', s, "i", "i")
		wantMake(t, "", api.ErrArg, 'l', "i", s)
	}
	long := strings.Repeat("x", 70)
	wantMake(t, "", api.ErrLarge, ',', long, "z") // the first part that is none
	wantMake(t, "", api.ErrShape, ',', "z", long)
	wantMake(t, "", api.ErrShape, '>', strings.Repeat("l", 63)+"i", "z") // ahead of the whole's being too large
}

func TestMakeLimit(t *testing.T) {
	for n := range 64 {
		most, rest := strings.Repeat("x", n)+"i", strings.Repeat("l", 63-n)+"?"
		wantMake(t, "", api.ErrLarge, '>', most, rest) // 66 letters
		if n < 63 {
			wantMake(t, "", api.ErrLarge, ',', most, rest[1:]) // 65
		}
		if n < 62 {
			wantMake(t, ","+most+rest[2:], api.OK, ',', most, rest[2:]) // 64
		}
	}
	wantMake(t, strings.Repeat("l", 63)+"t", api.OK, 'l', strings.Repeat("l", 62)+"t")
	wantMake(t, "", api.ErrLarge, 'l', strings.Repeat("l", 63)+"t")
}

// R5: what is handed in is neither changed nor kept, what is answered is new.
func TestListsAreLeftAlone(t *testing.T) {
	room := []string{"i", ">bb", "spare"}
	got, _ := types.Make(',', room[:2]...)
	if !slices.Equal(room, []string{"i", ">bb", "spare"}) {
		t.Errorf("R5: the parts are changed: %q", room)
	}
	clear(room)
	if got != ",i>bb" {
		t.Errorf("R5: the parts are kept: %q", got)
	}
	one, other := types.Parts(",ib"), types.Parts(",ib")
	clear(one[:cap(one)])
	if !slices.Equal(other, []string{"i", "b"}) || !slices.Equal(types.Parts(",ib"), []string{"i", "b"}) {
		t.Errorf("R5: two answers share memory: %q", other)
	}
}
