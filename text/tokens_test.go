package text_test

import (
	"bytes"
	"slices"
	"strings"
	"testing"

	"culprit/api"
	"culprit/text"
)

// at makes tokens short to write: where a test gives a token, its place stands last.
func at(line, col int) api.Place { return api.Place{Line: line, Col: col} }

func word(s string, p api.Place) text.Token  { return text.Token{Kind: text.Word, S: s, At: p} }
func name(s string, p api.Place) text.Token  { return text.Token{Kind: text.Name, S: s, At: p} }
func num(n int64, p api.Place) text.Token    { return text.Token{Kind: text.Number, N: n, At: p} }
func quote(s string, p api.Place) text.Token { return text.Token{Kind: text.Text, S: s, At: p} }
func mark(s string, p api.Place) text.Token  { return text.Token{Kind: text.Mark, S: s, At: p} }

func wantTokens(t *testing.T, src string, want ...text.Token) {
	t.Helper()
	got, e, place := text.Tokens([]byte(src))
	if e != api.OK || place != (api.Place{}) || !slices.Equal(got, want) {
		t.Errorf("P1.1: Tokens(%.80q) = %v, %d, %v; want %v", src, got, e, place, want)
	}
}

func wantFault(t *testing.T, src string, e api.Errno, place api.Place) {
	t.Helper()
	got, gotE, gotPlace := text.Tokens([]byte(src))
	if len(got) != 0 || gotE != e || gotPlace != place {
		t.Errorf("P1.1: Tokens(%.80q) = %v, %d, %v; want none, %d, %v", src, got, gotE, gotPlace, e, place)
	}
}

func TestKindsAreTheDocuments(t *testing.T) {
	got := []int8{text.Word, text.Name, text.Number, text.Text, text.Mark}
	if !slices.Equal(got, []int8{1, 2, 3, 4, 5}) {
		t.Errorf("kinds: %v", got)
	}
}

func TestTokensOfTheTable(t *testing.T) {
	wantTokens(t, "")
	wantTokens(t, "# x")
	wantTokens(t, "let x1=fn(y:?)=>0",
		word("let", at(1, 1)), name("x1", at(1, 5)), mark("=", at(1, 7)), word("fn", at(1, 8)),
		mark("(", at(1, 10)), name("y", at(1, 11)), mark(":", at(1, 12)), mark("?", at(1, 13)),
		mark(")", at(1, 14)), mark("=>", at(1, 15)), num(0, at(1, 17)))
	wantTokens(t, "a->b--1",
		name("a", at(1, 1)), mark("->", at(1, 2)), name("b", at(1, 4)),
		mark("-", at(1, 5)), mark("-", at(1, 6)), num(1, at(1, 7)))
	wantTokens(t, "+++=>==",
		mark("++", at(1, 1)), mark("+", at(1, 3)), mark("=>", at(1, 4)), mark("==", at(1, 6)))
	wantTokens(t, `"a\"\\\n b"`, quote("a\"\\\n b", at(1, 1)))
	wantTokens(t, "9223372036854775807", num(1<<63-1, at(1, 1)))
}

func TestFaultsOfTheTable(t *testing.T) {
	for _, src := range []string{"9223372036854775808", "007", "1x", "0_"} {
		wantFault(t, src, api.ErrNumber, at(1, 1))
	}
	wantFault(t, `x "a`, api.ErrText, at(1, 3))
	for _, src := range []string{"\"a\n", `"\q"`, "\"\xc8\""} {
		wantFault(t, src, api.ErrText, at(1, 1))
	}
	wantFault(t, strings.Repeat("a", 33), api.ErrName, at(1, 1))
	wantFault(t, "_", api.ErrByte, at(1, 1))
	wantFault(t, "a $", api.ErrByte, at(1, 3))
}

func TestNoSourceIsAnEmptyOne(t *testing.T) {
	if got, e, place := text.Tokens(nil); len(got) != 0 || e != api.OK || place != (api.Place{}) {
		t.Errorf("P1.1: Tokens(nil) = %v, %d, %v", got, e, place)
	}
}

func TestSourceLimit(t *testing.T) {
	const most = 1 << 16
	wantTokens(t, strings.Repeat(" ", most))
	wantTokens(t, "#"+strings.Repeat("x", most-1))
	wantTokens(t, strings.Repeat(" ", most-1)+"z", name("z", at(1, most)))
	wantTokens(t, strings.Repeat("\n", most-1)+"z", name("z", at(most, 1)))
	if got, e, _ := text.Tokens(bytes.Repeat([]byte("("), most)); len(got) != most || e != api.OK {
		t.Errorf("P1.1: %d tokens, %d, of %d marks", len(got), e, most)
	}
	wantFault(t, strings.Repeat("$", most), api.ErrByte, at(1, 1))

	wantFault(t, strings.Repeat(" ", most+1), api.ErrLong, api.Place{})
	wantFault(t, "z"+strings.Repeat(" ", most), api.ErrLong, api.Place{})
	wantFault(t, strings.Repeat("$", most+1), api.ErrLong, api.Place{}) // ahead of every other fault
}

func TestPlaces(t *testing.T) {
	wantTokens(t, "a\n b\n\n\tc\r\nd\re",
		name("a", at(1, 1)), name("b", at(2, 2)), name("c", at(4, 2)), name("d", at(5, 1)), name("e", at(5, 3)))
	wantTokens(t, "\n\n\"\\n\" x", quote("\n", at(3, 1)), name("x", at(3, 6)))
	wantTokens(t, "# \xff\xfe\na", name("a", at(2, 1)))
	wantFault(t, "ab\n\tcd $", api.ErrByte, at(2, 5))
	wantFault(t, "ab\n\n 00", api.ErrNumber, at(3, 2))
	wantFault(t, "ab # \n\"", api.ErrText, at(2, 1))
	wantFault(t, "\r\n"+strings.Repeat("z", 40), api.ErrName, at(2, 1))
}

func TestBlanksAreFourBytes(t *testing.T) {
	for b := range 256 {
		src := "a" + string([]byte{byte(b)}) + "a"
		got, e, _ := text.Tokens([]byte(src))
		parts := e == api.OK && slices.EqualFunc(got, []string{"a", "a"}, func(x text.Token, s string) bool { return x.S == s })
		if blank := strings.IndexByte("\t\n\r ", byte(b)) >= 0; parts != blank {
			t.Errorf("P1.1: the byte %d parts: %v", b, parts)
		}
	}
}

func TestRemarks(t *testing.T) {
	wantTokens(t, "#")
	wantTokens(t, "##\n#\n#")
	wantTokens(t, "a#b\nc", name("a", at(1, 1)), name("c", at(2, 1)))
	wantTokens(t, "a # \" $ 007 \x00\x80\xff\r b\n# c\n  d",
		name("a", at(1, 1)), name("d", at(3, 3)))
	wantTokens(t, "1#\n\n#\n2", num(1, at(1, 1)), num(2, at(4, 1)))
	wantTokens(t, `"#"#"`, quote("#", at(1, 1)))
	wantTokens(t, "# x\ny", name("y", at(2, 1)))
	wantFault(t, "# x\n$", api.ErrByte, at(2, 1))
}

func TestWordsAndNames(t *testing.T) {
	for _, w := range allWords() {
		wantTokens(t, w, word(w, at(1, 1)))
		wantTokens(t, w+"_", name(w+"_", at(1, 1)))
		wantTokens(t, w+"0 x", name(w+"0", at(1, 1)), name("x", at(1, len(w)+3)))
		upper := strings.ToUpper(w)
		wantTokens(t, upper, name(upper, at(1, 1)))
	}
	for _, s := range []string{"a", "z", "A", "Z", "a_", "a__9", "aZ09_", "letx", "lets", "i", "Az", "zA"} {
		wantTokens(t, s, name(s, at(1, 1)))
	}
	wantTokens(t, "let(x", word("let", at(1, 1)), mark("(", at(1, 4)), name("x", at(1, 5)))
}

func TestNameLimit(t *testing.T) {
	longest := "a" + strings.Repeat("_", 31)
	wantTokens(t, longest, name(longest, at(1, 1)))
	wantTokens(t, longest+" b", name(longest, at(1, 1)), name("b", at(1, 34)))
	wantFault(t, longest+"9", api.ErrName, at(1, 1))
	wantFault(t, "x "+strings.Repeat("b", 1000), api.ErrName, at(1, 3))
}

func TestNumbers(t *testing.T) {
	for src, n := range map[string]int64{
		"0": 0, "1": 1, "9": 9, "10": 10, "90": 90, "1234567890": 1234567890,
		"9223372036854775806": 1<<63 - 2, "9223372036854775807": 1<<63 - 1,
	} {
		wantTokens(t, src, num(n, at(1, 1)))
	}
	wantTokens(t, "-9223372036854775807", mark("-", at(1, 1)), num(1<<63-1, at(1, 2)))
	wantTokens(t, "1.0", num(1, at(1, 1)), mark(".", at(1, 2)), num(0, at(1, 3)))
	wantTokens(t, "0 0", num(0, at(1, 1)), num(0, at(1, 3)))
	for _, src := range []string{
		"00", "01", "0x1", "0b1", "0o7", "1_000", "1_", "1e3", "9a", "12A", "0a", "10000000000000000000",
		"18446744073709551616", "18446744073709551617", "99999999999999999999999", strings.Repeat("1", 1<<16),
	} {
		wantFault(t, src, api.ErrNumber, at(1, 1))
	}
}

func TestTexts(t *testing.T) {
	wantTokens(t, `""`, quote("", at(1, 1)))
	wantTokens(t, `"a""b"`, quote("a", at(1, 1)), quote("b", at(1, 4)))
	wantTokens(t, `"\\"`, quote(`\`, at(1, 1)))
	wantTokens(t, `"\\n"`, quote(`\n`, at(1, 1)))
	wantTokens(t, `"\n"`, quote("\n", at(1, 1)))
	wantTokens(t, `"\""`, quote(`"`, at(1, 1)))
	wantTokens(t, `"let 1 # ' ~"x`, quote("let 1 # ' ~", at(1, 1)), name("x", at(1, 14)))
	for _, src := range []string{
		`"`, `"a`, `"\`, `"\"`, `"\\\"`, `"\n`, `"a\`, `"\N"`, `"\t"`, `"\0"`, `"\'"`, "\"\\\n\"", "\"a\r\"", `"\ "`,
	} {
		wantFault(t, src, api.ErrText, at(1, 1))
	}
	wantFault(t, `a "b" "c`, api.ErrText, at(1, 7))
}

func TestBytesOfTexts(t *testing.T) {
	for b := range 256 {
		said := string([]byte{byte(b)})
		src := `"` + said + `"`
		if b >= 32 && b <= 126 && b != '"' && b != '\\' {
			wantTokens(t, src, quote(said, at(1, 1)))
		} else {
			wantFault(t, src, api.ErrText, at(1, openText(b)))
		}
		escape := `"\` + said + `"`
		if stands, ok := map[int]string{'"': `"`, '\\': `\`, 'n': "\n"}[b]; ok {
			wantTokens(t, escape, quote(stands, at(1, 1)))
		} else {
			wantFault(t, escape, api.ErrText, at(1, 1))
		}
	}
}

// openText: where the " without an end stands: of """ it is the third one, behind an empty Text.
func openText(b int) int {
	if b == '"' {
		return 3
	}
	return 1
}

func TestTextLimit(t *testing.T) {
	for _, unit := range []struct{ src, stands string }{{"a", "a"}, {`\"`, `"`}, {`\\`, `\`}, {`\n`, "\n"}} {
		wantTokens(t, `"`+strings.Repeat(unit.src, 64)+`"`, quote(strings.Repeat(unit.stands, 64), at(1, 1)))
		wantFault(t, `"`+strings.Repeat(unit.src, 65)+`"`, api.ErrText, at(1, 1))
	}
	wantFault(t, `x "`+strings.Repeat("a", 64), api.ErrText, at(1, 3))
	wantFault(t, `"`+strings.Repeat("a", 1<<16-2)+`"`, api.ErrText, at(1, 1))
}

func allMarks() []string {
	return []string{"->", "=>", ":=", "==", "++", "(", ")", "[", "]", "{", "}", ",", ":", ";", ".", "=", "<", "+", "-", "*", "?", "!"}
}

func TestMarks(t *testing.T) {
	for _, m := range allMarks() {
		wantTokens(t, m, mark(m, at(1, 1)))
		wantTokens(t, m+" "+m+"x", mark(m, at(1, 1)), mark(m, at(1, len(m)+2)), name("x", at(1, 2*len(m)+2)))
	}
}

// Two bytes make one mark, two, or none, by the longest of the document's marks.
func TestLongestMark(t *testing.T) {
	marks := allMarks()
	for i := range 256 {
		for j := range 256 {
			if wholeByte(i) || wholeByte(j) {
				continue
			}
			src := string([]byte{byte(i), byte(j)})
			first, second := src[:1], src[1:]
			switch {
			case slices.Contains(marks, src):
				wantTokens(t, src, mark(src, at(1, 1)))
			case !slices.Contains(marks, first):
				wantFault(t, src, api.ErrByte, at(1, 1))
			case !slices.Contains(marks, second):
				wantFault(t, src, api.ErrByte, at(1, 2))
			default:
				wantTokens(t, src, mark(first, at(1, 1)), mark(second, at(1, 2)))
			}
		}
	}
}

// wholeByte: one that begins something else than a mark.
func wholeByte(b int) bool {
	return 'a' <= b && b <= 'z' || 'A' <= b && b <= 'Z' || '0' <= b && b <= '9' || strings.IndexByte("\"#\t\n\r ", byte(b)) >= 0
}

func TestBytesThatBeginNothing(t *testing.T) {
	for b := range 256 {
		s := string([]byte{byte(b)})
		if wholeByte(b) || slices.Contains(allMarks(), s) {
			continue
		}
		wantFault(t, s, api.ErrByte, at(1, 1))
		wantFault(t, "let x\n = "+s, api.ErrByte, at(2, 4))
	}
	wantFault(t, "a ->> b", api.ErrByte, at(1, 5))
	wantFault(t, "a > b", api.ErrByte, at(1, 3))
	wantFault(t, "x = é", api.ErrByte, at(1, 5))
}

func TestTheFirstFaultIsTold(t *testing.T) {
	long := strings.Repeat("n", 33)
	wantFault(t, "1x "+long+" $ \"", api.ErrNumber, at(1, 1))
	wantFault(t, long+" $ 1x \"", api.ErrName, at(1, 1))
	wantFault(t, "$ 1x "+long+" \"", api.ErrByte, at(1, 1))
	wantFault(t, "\" 1x "+long+" $", api.ErrText, at(1, 1))
	wantFault(t, "ok ok ok\n00 $", api.ErrNumber, at(2, 1))
}

// R5: a source is neither changed nor kept, its spare room neither.
func TestSourceIsLeftAlone(t *testing.T) {
	room := []byte(`let x = "a\n" + 12 # remark; y`)
	before := bytes.Clone(room)
	src := room[:len(room)-12]
	got, _, _ := text.Tokens(src)
	if !bytes.Equal(room, before) {
		t.Errorf("R5: the source is changed: %q", room)
	}
	again, _, _ := text.Tokens(src)
	for i := range room {
		room[i] = '!'
	}
	if want := (text.Token{Kind: text.Text, S: "a\n", At: at(1, 9)}); len(got) != 6 || got[3] != want {
		t.Errorf("R5: the source is kept: %v", got)
	}
	clear(got[:cap(got)])
	if len(again) != 6 || again[0].S != "let" {
		t.Errorf("R5: two answers share memory: %v", again)
	}
}
