package types_test

import (
	"strings"
	"testing"

	"culprit/api"
	"culprit/types"
)

func wantRead(t *testing.T, words, want string) {
	t.Helper()
	if got, e, at := types.Read(words); got != want || e != api.OK || at != 0 {
		t.Errorf("P2.5: Read(%.80q) = %q, %d, %d; want %q", words, got, e, at, want)
	}
}

func wantNone(t *testing.T, words string, e api.Errno, at int) {
	t.Helper()
	if got, gotE, gotAt := types.Read(words); got != "" || gotE != e || gotAt != at {
		t.Errorf("P2.5: Read(%.80q) = %q, %d, %d; want none, %d, %d", words, got, gotE, gotAt, e, at)
	}
}

func TestReadOfTheTable(t *testing.T) {
	wantRead(t, "int->int -> int", ">i>ii")
	wantRead(t, "((int))", "i")
	wantRead(t, "box box(int)", "xxi")
	wantRead(t, "( int , [?] )", ",il?")
	wantNone(t, "", api.ErrParse, 0)
	wantNone(t, "int int", api.ErrParse, 4)
	wantNone(t, "foo", api.ErrParse, 0)
	wantNone(t, "int ->", api.ErrParse, 6)
	wantNone(t, "int - int", api.ErrByte, 4)
	wantNone(t, "(int", api.ErrParse, 4)
	wantRead(t, strings.Repeat("(", 64)+"int"+strings.Repeat(")", 64), "i")
	wantNone(t, strings.Repeat("(", 65)+"int"+strings.Repeat(")", 65), api.ErrDeep, 64)
}

func TestRead(t *testing.T) {
	for words, want := range map[string]string{
		"int": "i", "bool": "b", "text": "t", "?": "?",
		"[?]": "l?", "box int": "xi", "box?": "x?", "(int,bool)": ",ib", "?->?": ">??",
		"int -> bool -> text":             ">i>bt",
		"(int -> bool) -> text":           ">>ibt",
		"int -> (bool -> text)":           ">i>bt",
		"box int -> int":                  ">xii",
		"box (int -> int)":                "x>ii",
		"box ((int -> int))":              "x>ii",
		"box (int, int)":                  "x,ii",
		"box box int -> box int":          ">xxixi",
		"(int -> int, bool -> bool)":      ",>ii>bb",
		"((int, int), (int -> int))":      ",,ii>ii",
		"([int -> ?]) -> ?":               ">l>i??",
		"[[box [text]]]":                  "llxlt",
		"((int) -> ((bool))) -> (((?)))":  ">>ib?",
		"box[box(int)]":                   "xlxi",
		"(box int, int) -> [int] -> text": ">,xii>lit",
	} {
		wantRead(t, words, want)
	}
}

func TestReadBlanks(t *testing.T) {
	wantRead(t, "\t\r\n int \n\r\t ", "i")
	wantRead(t, "\n(\tint\r,\n\n[ ? ]  ) ->\tbox\nbool", ">,il?xb")
	wantNone(t, " \t\r\n", api.ErrParse, 4)
	wantNone(t, "int -> \n", api.ErrParse, 8)
	wantNone(t, "\n\n  )", api.ErrParse, 4)
	wantNone(t, "int\t\tint", api.ErrParse, 5)
	wantNone(t, "boxint", api.ErrParse, 0)
	wantNone(t, "- >", api.ErrByte, 0)
	wantNone(t, "int - > int", api.ErrByte, 4)
}

// Of each byte: it parts two words, goes on with one, is a mark, or begins no token.
func TestReadEveryByte(t *testing.T) {
	for b := range 256 {
		s := string([]byte{byte(b)})
		letter := 'a' <= b && b <= 'z' || 'A' <= b && b <= 'Z'
		inner := letter || '0' <= b && b <= '9' || b == '_'
		blank := strings.IndexByte("\t\n\r ", byte(b)) >= 0
		mark := strings.IndexByte("?(),[]", byte(b)) >= 0
		switch {
		case blank:
			wantRead(t, s+"int"+s, "i")
			wantNone(t, "int"+s+"int", api.ErrParse, 4)
		case inner:
			wantNone(t, "int"+s, api.ErrParse, 0)
			wantNone(t, "box"+s+" int", api.ErrParse, 0)
		case mark:
			wantNone(t, "int"+s+"#", api.ErrParse, 3)
		default:
			wantNone(t, "int"+s, api.ErrByte, 3)
		}
		switch {
		case letter:
			wantNone(t, s+" #", api.ErrParse, 0)
			wantNone(t, s+"int #", api.ErrParse, 0)
			wantNone(t, "[ "+s+"9_#", api.ErrParse, 2)
		case !blank && !mark:
			wantNone(t, s, api.ErrByte, 0)
			wantNone(t, "( "+s, api.ErrByte, 2)
			wantNone(t, "int -> "+s+"int", api.ErrByte, 7)
		}
	}
	wantNone(t, "inté", api.ErrByte, 3)
	wantNone(t, "int é", api.ErrByte, 4)
	wantNone(t, "int\u00a0", api.ErrByte, 3)
	wantNone(t, "\u2028int", api.ErrByte, 0)
	wantNone(t, "(\xe2\x82", api.ErrByte, 1)
}

func TestReadWordsThatAreNone(t *testing.T) {
	for _, s := range []string{"Int", "INT", "ints", "in", "int_", "int1", "i", "x", "list", "fn", "Box", "boxes", "unknown", "a_1", strings.Repeat("a", 1000)} {
		wantNone(t, s, api.ErrParse, 0)
		wantNone(t, "box "+s, api.ErrParse, 4)
		wantNone(t, "int "+s, api.ErrParse, 4)
		wantNone(t, "(int, "+s, api.ErrParse, 6)
	}
}

func TestReadTokensOutOfPlace(t *testing.T) {
	for words, at := range map[string]int{
		")": 0, "]": 0, ",": 0, "->": 0, "-> int": 0,
		"()": 1, "[]": 1, "(]": 1, "[)": 1, "(,int)": 1, "(->": 1,
		"int)": 3, "int]": 3, "int,int": 3, "int?": 3, "?int": 1, "??": 1, "int(": 3, "int [": 4, "int box": 4,
		"(int]": 4, "[int)": 4, "[int,": 4, "(int int": 5, "(int,)": 5, "(int,int,": 8, "(int,int]": 8, "(int,int int": 9,
		"(int,int->)": 10, "(int->,": 6, "[int->]": 6,
		"box": 3, "box ": 4, "box ->": 4, "box )": 4, "box box": 7, "box , int": 4, "box int int": 8, "box int box": 8,
		"(": 1, "[": 1, "(int,": 5, "(int, int": 9, "[int": 4, "[int ": 5, "((int)": 6, "int -> (int": 11,
		"int -> -> int": 7, "int -> ) int": 7, "(int) int": 6, "[int] [int]": 6, "(int, int) (": 11, "(int))": 5, "[[int]": 6, "[[int]]]": 7,
	} {
		wantNone(t, words, api.ErrParse, at)
	}
}

// The first fault by its place, whatever it is.
func TestReadTellsTheFirstFault(t *testing.T) {
	deep := strings.Repeat("[", 65)
	wantNone(t, "int int #", api.ErrParse, 4)
	wantNone(t, "int # int", api.ErrByte, 4)
	wantNone(t, "foo#", api.ErrParse, 0)
	wantNone(t, "int#foo", api.ErrByte, 3)
	wantNone(t, "foo "+deep, api.ErrParse, 0)
	wantNone(t, "# "+deep, api.ErrByte, 0)
	wantNone(t, deep+"#", api.ErrDeep, 64)
	wantNone(t, deep+")", api.ErrDeep, 64)
	wantNone(t, deep, api.ErrDeep, 64)
	wantNone(t, deep[1:]+"#", api.ErrByte, 64)
	wantNone(t, deep[1:]+")", api.ErrParse, 64)
	wantNone(t, deep[1:], api.ErrParse, 64)
	wantNone(t, deep[1:]+"int[", api.ErrParse, 67) // no type goes on with it, however deep
	wantNone(t, deep[1:]+"int box", api.ErrParse, 68)

	large := strings.Repeat("(int, ", 40) + "int" + strings.Repeat(")", 40)
	wantNone(t, large, api.ErrLarge, 0)
	wantNone(t, large+"#", api.ErrByte, len(large))
	wantNone(t, large+")", api.ErrParse, len(large))
	wantNone(t, large+" -> ", api.ErrParse, len(large)+4)
	wantNone(t, large+" -> "+deep, api.ErrDeep, len(large)+4+63)
}

// around: words in n parentheses, which are open all the while.
func around(n int, words string) string {
	return strings.Repeat("(", n) + words + strings.Repeat(")", n)
}

// At the depth MaxNest all is as below it; each kind of what is open is refused one beyond.
func TestReadDepth(t *testing.T) {
	wantRead(t, around(64, "?"), "?")
	wantNone(t, around(65, "?"), api.ErrDeep, 64)
	wantNone(t, around(1000, "?"), api.ErrDeep, 64)
	wantRead(t, around(63, "(int, int)"), ",ii")
	wantNone(t, around(64, "(int, int)"), api.ErrDeep, 64)
	wantRead(t, around(63, "[int]"), "li")
	wantNone(t, around(64, "[int]"), api.ErrDeep, 64)
	wantRead(t, around(63, "box int"), "xi")
	wantNone(t, around(64, "box int"), api.ErrDeep, 64)
	wantRead(t, around(63, "int -> int"), ">ii")
	wantNone(t, around(64, "int -> int"), api.ErrDeep, 68)
	wantRead(t, around(62, "int -> int -> int"), ">i>ii")
	wantNone(t, around(63, "int -> int -> int"), api.ErrDeep, 74)
	wantRead(t, around(61, "[box box int]"), "lxxi")
	wantNone(t, around(62, "[box box int]"), api.ErrDeep, 67)
}

func TestReadWhatIsClosedCountsNoMore(t *testing.T) {
	wantRead(t, around(62, "(int) -> (int)"), ">ii")
	wantNone(t, around(63, "(int) -> (int)"), api.ErrDeep, 63+9)
	wantRead(t, around(63, "box int -> int"), ">xii")
	wantRead(t, around(62, "box box int -> int -> int"), ">xxi>ii")
	wantRead(t, around(62, "[int -> int]"), "l>ii")
	wantRead(t, around(62, "[int] -> [int]"), ">lili")
	wantRead(t, around(62, "(int -> int, (int))"), ",>iii")
	wantRead(t, around(62, "((int), int -> int)"), ",i>ii")
	wantRead(t, around(62, "(box int, box int)"), ",xixi")
	wantRead(t, "("+around(63, "int")+","+around(63, "bool")+")", ",ib")
	wantNone(t, "("+around(63, "int")+","+around(64, "bool")+")", api.ErrDeep, 1+63+3+63+1+63)
	wantRead(t, strings.Repeat("(int) -> ", 20)+around(44, "int"), strings.Repeat(">i", 20)+"i")
	wantNone(t, strings.Repeat("(int) -> ", 20)+around(45, "int"), api.ErrDeep, 20*9+44)
}

func TestReadLimit(t *testing.T) {
	wantRead(t, strings.Repeat("box ", 63)+"int", strings.Repeat("x", 63)+"i")
	wantNone(t, strings.Repeat("box ", 64)+"int", api.ErrLarge, 0)
	wantNone(t, strings.Repeat("box ", 65)+"int", api.ErrDeep, 256)
	wantRead(t, strings.Repeat("[", 63)+"?"+strings.Repeat("]", 63), strings.Repeat("l", 63)+"?")
	wantNone(t, strings.Repeat("[", 64)+"?"+strings.Repeat("]", 64), api.ErrLarge, 0)
	wantRead(t, strings.Repeat("int -> ", 31)+"bool", strings.Repeat(">i", 31)+"b")
	wantRead(t, "box ("+strings.Repeat("int -> ", 31)+"bool)", "x"+strings.Repeat(">i", 31)+"b")
	wantNone(t, strings.Repeat("int -> ", 32)+"bool", api.ErrLarge, 0)
	wantNone(t, strings.Repeat("int -> ", 64)+"bool", api.ErrLarge, 0)
	wantNone(t, strings.Repeat("int -> ", 65)+"bool", api.ErrDeep, 64*7+4)
	wantRead(t, around(32, strings.Repeat("(int, ", 31)+"bool"+strings.Repeat(")", 31)), strings.Repeat(",i", 31)+"b")
	wantNone(t, around(32, strings.Repeat("(int, ", 32)+"bool"+strings.Repeat(")", 32)), api.ErrLarge, 0)
	wantNone(t, "("+strings.Repeat("box ", 64)+"int, int) -> int", api.ErrDeep, 1+4*63)
	wantNone(t, "("+strings.Repeat("box ", 63)+"int, int) -> int", api.ErrLarge, 0)
	wantNone(t, "[int, "+strings.Repeat("box ", 64)+"int]", api.ErrParse, 4)

	pairs := "int"
	for range 14 {
		pairs = "(" + pairs + ", " + pairs + ")"
	}
	wantNone(t, pairs, api.ErrLarge, 0)
	wantNone(t, pairs+" -> "+pairs, api.ErrLarge, 0)
	wantNone(t, "("+pairs+", #)", api.ErrByte, len(pairs)+3)
}
