package code_test

import (
	"slices"
	"strconv"
	"strings"
	"testing"

	"culprit/api"
)

// kindsOfLines: a line of each kind, as they stand in order.
func kindsOfLines() []string {
	return []string{"num 7\n", "text \"a\"\n", "type \"l?\"\n", "cast \"i\" \"?\" 2.0.1.105.0.0.0\n", "fn \"i\" : \"b\" \"t\"\n", " call 0 0\n"}
}

// wantLineRefused: the line can stand nowhere: alone, behind the lines of each kind, with lines behind it, without its end.
func wantLineRefused(t *testing.T, line string) {
	t.Helper()
	ahead := ""
	for n := range len(kindsOfLines()) + 1 {
		for _, behind := range []string{"\n", "", "\n call 0 0\n", "\nnum 1\n", "\n\n"} {
			wantRefused(t, ahead+line+behind, n+1)
		}
		if n < len(kindsOfLines()) {
			ahead += kindsOfLines()[n]
		}
	}
}

func TestLinesThatCanStandNowhere(t *testing.T) {
	for _, line := range []string{
		" ", "  ", "x", "0", "7", "#", "# 0 0", ":", `""`, "num", "text", "type", "cast", "fn", "call", "call 0 0", "push 0 0", "nums 7", "Num 7", "NUM 7", "ins 0 0", "co 1", "function : \"\" \"\"", "\x00", "\xff", "\r", "\t", "num7", "text\"a\"", "type\"i\"", "cast\"i\" \"?\"", "fn: \"\" \"\"", "fn:\"\"\"\"",
	} {
		wantLineRefused(t, line)
	}
}

func TestEmptyLines(t *testing.T) {
	wantCode(t, "", api.Code{})
	wantRefused(t, "\n", 1)
	wantRefused(t, "\n\n", 1)
	wantRefused(t, "\r\n", 1)
	all := kindsOfLines()
	for n := range len(all) + 1 {
		wantRefused(t, strings.Join(all[:n], "")+"\n"+strings.Join(all[n:], ""), n+1)
		wantRefused(t, strings.Join(all[:n], "")+" \n"+strings.Join(all[n:], ""), n+1)
	}
	for n := range all {
		wantRefused(t, strings.Join(all[:n], "")+strings.TrimSuffix(all[n], "\n")+"\r\n"+strings.Join(all[n+1:], ""), n+1)
	}
}

// What stands behind the last line end cannot stand there, be it a line or a part of one.
func TestLastLinesWithoutTheirEnd(t *testing.T) {
	ahead := ""
	for n, line := range kindsOfLines() {
		for end := 1; end < len(line); end++ {
			wantRefused(t, ahead+line[:end], n+1)
		}
		ahead += line
		for _, more := range []string{" ", "x", "\x00", "\"", "num 7", " call 0 0", "fn : \"\" \"\""} {
			wantRefused(t, ahead+more, n+2)
		}
		if n > 0 { // a num line has but this one text
			wantRefused(t, ahead+"num 1", n+2)
		}
	}
	wantRefused(t, "num 7", 1)
	wantRefused(t, "num 7\nnum 8", 2)
	wantRefused(t, "num x\nnum 8", 1)
}

// All ways to lay at most five lines: each kind, and one that can stand nowhere.
func TestOrderOfLines(t *testing.T) {
	stock := append(kindsOfLines(), "\n", "num\n")
	taken, refused := 0, map[int]int{}
	var lay func(lines []int, more int)
	lay = func(lines []int, more int) {
		text, rank, want := "", 0, 0
		for i, kind := range lines {
			text += stock[kind]
			switch stands := kind < 5 && kind >= rank || kind == 5 && rank == 4; {
			case !stands && want == 0:
				want = i + 1
			case kind < 5:
				rank = max(rank, kind)
			}
		}
		if want > 0 {
			refused[want]++
			wantRefused(t, text, want)
		} else if taken++; !wantAsWords(t, text) {
			t.Errorf("P18.2: the words refuse %q", text)
		}
		if more == 0 {
			return
		}
		for kind := range stock {
			lay(append(lines[:len(lines):len(lines)], kind), more-1)
		}
	}
	lay(nil, 5)
	if taken < 200 || len(refused) != 5 {
		t.Errorf("too few kinds of texts: %d, %v", taken, refused)
	}
}

func TestLinesOutOfOrder(t *testing.T) {
	all := kindsOfLines()
	for i, first := range all[:5] {
		for j, second := range all[:5] {
			switch {
			case j >= i:
				wantAsWords(t, first+second)
			case i == 4:
				wantRefused(t, first+second, 2)
				wantRefused(t, first+" ret 0 0\n"+second, 3)
				wantRefused(t, first+first+" ret 0 0\n ret 0 0\n"+second+first, 5)
			default:
				wantRefused(t, first+second, 2)
				wantRefused(t, first+first+second+first, 3)
			}
		}
		if i < 4 {
			wantRefused(t, all[5]+first, 1)
			wantRefused(t, first+all[5], 2)
			wantRefused(t, first+first+all[5]+all[4], 3)
		}
	}
	wantRefused(t, "num 7\ncast \"i\" \"?\"\nnum 8\n", 3)
	wantRefused(t, " call 0 0\nfn : \"\" \"\"\n", 1)
	// The first line that cannot stand there is told, whatever is wrong with later ones.
	wantRefused(t, "num 1\nnum 02\nnum +3\nx\n", 2)
	wantRefused(t, "type \"i\"\nnum 1\nnum 02\n", 2)
	wantRefused(t, "type \"i\"\nnum 01\ntype \"i\"", 2)
}

// notNumbers: words that are told otherwise than numbers are, or beyond 64 bits.
func notNumbers() []string {
	return []string{"", "-", "--1", "-0", "+0", "+1", "+", "00", "01", "007", "-01", "-00", "1-", "1-2", "0x1", "0b1", "0o7", "1_0", "_1", "1e1", "1.", ".1", "1,0", " 1", "1 ", "x", "a", "٣", "½", "1\x00", "\x001", "1\r", "\t1", "\"1\"", "'1'", "#1", "−1", "∞", "nan", "true",
		"9223372036854775808", "-9223372036854775809", "18446744073709551615", "18446744073709551616", "18446744073709551617", "-18446744073709551615", "99999999999999999999999999", "09223372036854775807", "-09223372036854775808", strings.Repeat("9", 400), strings.Repeat("0", 400), "0" + strings.Repeat("0", 400) + "1"}
}

func TestNumbersThatAreNone(t *testing.T) {
	for _, n := range notNumbers() {
		wantRefused(t, "num "+n+"\n", 1)
		wantRefused(t, "num 7\nnum "+n+"\nnum 7\n", 2)
		wantRefused(t, "fn : \"\" \"\"\n push "+n+" 0\n", 2)
		wantRefused(t, "fn : \"\" \"\"\n push 0 "+n+"\n", 2)
		wantRefused(t, "fn : \"\" \"\"\n #"+n+" 0 0\n", 2)
		for field := range 7 {
			wantRefused(t, "num 1\ncast \"i\" \"?\" "+nodeWith(field, n)+"\n", 2)
			wantRefused(t, "cast \"i\" \"?\" 2.0.1.105.0.0.0 "+nodeWith(field, n)+" 2.0.1.105.0.0.0\n", 1)
		}
	}
}

// nodeWith: a node's numbers, with a word in the place of one of them.
func nodeWith(field int, word string) string {
	fields := strings.Split("2.0.1.105.0.0.0", ".")
	fields[field] = word
	return strings.Join(fields, ".")
}

func castWith(field int, n int64) string {
	return "cast \"i\" \"?\" " + nodeWith(field, strconv.FormatInt(n, 10)) + "\n"
}

// At the ends of what a field holds all is as within them, one beyond is refused.
func TestNumbersBeyondTheirFields(t *testing.T) {
	for field, ends := range map[int][2]int64{0: {-128, 127}, 2: {0, 1}, 3: {0, 255}, 5: {0, 255}, 6: {0, 255}} {
		for _, n := range []int64{ends[0], ends[0] + 1, ends[1] - 1, ends[1]} {
			if !wantAsWords(t, castWith(field, n)) {
				t.Errorf("P18.2: the words refuse %q", castWith(field, n))
			}
		}
		for _, n := range []int64{ends[0] - 1, ends[1] + 1, ends[0] - 256, ends[1] + 256, ends[0] + 1<<32, ends[1] - 1<<32, 1<<63 - 1, -1 << 63} {
			wantRefused(t, castWith(field, n), 1)
		}
	}
	for _, field := range []int{1, 4} {
		for _, n := range someNumbers() {
			if !wantAsWords(t, castWith(field, n)) {
				t.Errorf("P18.2: the words refuse %q", castWith(field, n))
			}
		}
	}
	for _, n := range []string{"128", "-129", "256", "-256", "280", "263", "-249", "4294967296", "65535", "9223372036854775807", "-9223372036854775808"} {
		wantRefused(t, "fn : \"\" \"\"\n #"+n+" 0 0\n", 2)
	}
}

func TestNodesThatAreNone(t *testing.T) {
	for _, n := range []string{"2", "2.", "2.0.1.105.0.0", "2.0.1.105.0.0.", "2.0.1.105.0.0.0.", "2.0.1.105.0.0.0.0", ".2.0.1.105.0.0.0", "2..0.1.105.0.0.0", "2.0.1.105.0.0..0", "2,0,1,105,0,0,0", "2.0.1.105.0.0 0", "2 0 1 105 0 0 0", "2. 0.1.105.0.0.0", "2 .0.1.105.0.0.0", "2.0.1.i.0.0.0", "2.0.1.'i'.0.0.0", "2.0.1.\"i\".0.0.0", "2.0.true.105.0.0.0", "2.0..105.0.0.0", ".......", "......", "!i", "i", "?", "\"\"", ":", "#2.0.1.105.0.0.0", "2.0.1.105.0.0.0#", "2.0.1.105.0.0.0\r",
		"2.0.1.105.0.0.02.0.1.105.0.0.0", "2.0.1.105.0.0.0.2.0.1.105.0.0.0", "2.0.1.105.0.0.0 ", "2.0.1.105.0.0.0 2", "2.0.1.105.0.0.0  2.0.1.105.0.0.0", " 2.0.1.105.0.0.0", "2.0.1.105.0.0.0 \"i\""} {
		wantRefused(t, "cast \"i\" \"?\" "+n+"\n", 1)
		wantRefused(t, "cast \"i\" \"?\" 1.0.0.0.0.0.0 "+n+"\n", 1)
	}
	wantRefused(t, "cast \"i\" \"?\"2.0.1.105.0.0.0\n", 1)
	wantRefused(t, "cast 2.0.1.105.0.0.0 \"i\" \"?\"\n", 1)
	wantRefused(t, "cast \"i\" 2.0.1.105.0.0.0 \"?\"\n", 1)
	wantRefused(t, "cast \"i\" 2.0.1.105.0.0.0\n", 1)
}

// notQuoted: words that are no text in quotes, or one that is written otherwise than it should be.
func notQuoted() []string {
	l := []string{"", "a", "\"", "\"a", "a\"", "'a'", "`a`", "a\"\"", "\"\"\"", "\"\"a", "\"a\"b", "\"\"\"\"", "\"a\"\"", "\"a\"\"b\"", "\"a\n\"", "\"\n", "\"\t\"", "\"\r\"", "\"\x00\"", "\"\x7f\"", "\"\x80\"", "\"\xff\"", "\"é\"", "\"\"\r",
		`"\"`, `"\\"`, `"\n"`, `"\""`, `"\t"`, `"\x"`, `"\x0"`, `"\x0`, `"\x`, `"\`, `"\x00`, `"\x0g"`, `"\xg0"`, `"\x 0"`, `"\x0 "`, `"\x+1"`, `"\x-1"`, `"\x0x"`, `"\X00"`, `"\00"`, `"\000"`, `"\u0000"`, `"\x00\"`, `"\x\00"`, `"x0a\"`, `"\0a"`, `"\xx0a"`, `"\ x0a"`, `"\x0""`, `"\x""`, `"\x"0"`, `"\x0"0"`}
	for _, b := range []string{"0A", "0B", "0C", "0D", "0E", "0F", "A0", "AA", "fF", "Ff", "FF", "7F", "5C", "C3", "Da", "dA"} {
		l = append(l, `"\x`+b+`"`, `"a\x`+b+`b"`)
	}
	return l
}

// inEachPlace: lines in which a word stands where a text in quotes should.
func inEachPlace(word string) []string {
	return []string{"text " + word + "\n", "type " + word + "\n", "cast " + word + " \"i\"\n", "cast \"i\" " + word + "\n", "cast \"i\" " + word + " 1.0.0.0.0.0.0\n", "fn : " + word + " \"i\"\n", "fn : \"i\" " + word + "\n", "fn " + word + " : \"i\" \"i\"\n", "fn \"b\" " + word + " : \"i\" \"i\"\n", "fn " + word + " \"b\" : \"i\" \"i\"\n"}
}

func TestTextsInQuotesThatAreNone(t *testing.T) {
	for _, word := range notQuoted() {
		for _, line := range inEachPlace(word) {
			wantRefused(t, line, 1)
			wantRefused(t, "num 7\n"+line, 2)
		}
	}
}

// Each byte stands in quotes either as it is or as an escape, never both; and an escape has two small digits.
func TestEachByteIsWrittenInOneWay(t *testing.T) {
	const small, upper = "0123456789abcdef", "0123456789ABCDEF"
	for b := range 256 {
		raw := "\"<" + string([]byte{byte(b)}) + ">\""
		escaped := `"<\x` + string([]byte{small[b>>4], small[b&15]}) + `>"`
		inUpper := `"<\x` + string([]byte{upper[b>>4], upper[b&15]}) + `>"`
		plain := b >= 32 && b <= 126 && b != '"' && b != '\\'
		for i := range inEachPlace("") {
			for word, want := range map[string]bool{raw: plain, escaped: !plain, inUpper: !plain && inUpper == escaped} {
				line := inEachPlace(word)[i]
				if got := wantAsWords(t, line); got != want {
					t.Errorf("P18.2: %q is taken: %v; want %v", line, got, want)
				}
			}
		}
	}
	for first := range 256 {
		for second := range 256 {
			wantAsWords(t, "text \"\\x"+string([]byte{byte(first), byte(second)})+"\"\n")
		}
	}
}

func TestInstructionsThatAreNone(t *testing.T) {
	head := "fn : \"\" \"i\"\n"
	for _, line := range []string{
		" ", " call", " call 0", " call 0 0 0", " call 0 0 ", "  call 0 0", " call  0 0", " call 0  0", "call 0 0", "\tcall 0 0", " call\t0 0", " call 0 0\r", " call,0,0", " call 0,0", " call 0.0", " call0 0", " call 00", " 0 0", "  0 0", " 0 0 0", " 7 0 0", " - 0 0", " \"call\" 0 0", " Call 0 0", " CALL 0 0", " calls 0 0", " cal 0 0", " all 0 0", " call. 0 0", " _ 0 0", " x 0 0",
		" num 0 0", " type 0 0", " function 0 0", " ins 0 0", " add 0 0", " first 0 0", " nil 0 0", " pushtext 0 0", " push text 0 0", " num 7", " text \"a\"", " fn : \"\" \"\"", " : 0 0",
		" # 0 0", " #", " #x 0 0", " #call 0 0", " ##0 0 0", " #0 0", " #00 0 0", " #-0 0 0", " #+24 0 0", " #024 0 0", " # 24 0 0", " #24# 0 0", " 24 0 0", " 99 0 0", " #128 0 0", " #-129 0 0", " call#0 0 0", " #99 0 0 ", " #99  0 0", " #99 0", " #990 0", " #99 00", " call 0 00", " call 00 0", " call -0 0", " call 0 -0", " call +1 0", " call 0 +1", " call a 0", " call 0 a", " call \"0\" 0",
	} {
		wantRefused(t, head+line+"\n", 2)
		wantRefused(t, head+" ret 0 0\n"+line+"\n ret 0 0\n", 3)
		wantRefused(t, "num 1\n"+head+" ret 0 0\n"+head+line+"\n"+head, 5)
	}
	// An op that has a name is told by it, by no other word, and not by its number.
	for op, name := range strings.Fields(opNames) {
		number := strconv.Itoa(op + 1)
		for _, word := range []string{"#" + number, "#0" + number, "#+" + number, number, "#" + name, name + "#", name + number, strings.ToUpper(name), strings.ToUpper(name[:1]) + name[1:], name[1:], name[:len(name)-1], name + "s", name + "\x00", "\"" + name + "\""} {
			if !slices.Contains(strings.Fields(opNames), word) { // pend without its p is end
				wantRefused(t, head+" "+word+" 0 0\n", 2)
			}
		}
		if !wantAsWords(t, head+" "+name+" 0 0\n") || !wantAsWords(t, head+" #-"+number+" 0 0\n") {
			t.Errorf("P18.2: the words refuse %s", name)
		}
	}
}

func TestHeadsOfFunctionsThatAreNone(t *testing.T) {
	for _, line := range []string{
		"fn", "fn ", "fn :", "fn : ", "fn : \"i\"", "fn : \"i\" ", "fn : \"i\" \"i\" ", "fn : \"i\" \"i\" \"i\"", "fn :\"i\" \"i\"", "fn : \"i\"\"i\"", "fn: \"i\" \"i\"", "fn  : \"i\" \"i\"", "fn :  \"i\" \"i\"", "fn : \"i\"  \"i\"", " fn : \"i\" \"i\"", "\tfn : \"i\" \"i\"", "fn\t: \"i\" \"i\"",
		"fn \"i\" \"b\"", "fn \"i\" \"b\" ", "fn \"i\" \"b\" \"t\"", "fn \"i\"", "fn \"i\" :", "fn \"i\" : \"b\"", "fn \"i\": \"b\" \"t\"", "fn\"i\" : \"b\" \"t\"", "fn \"i\"\"i\" : \"b\" \"t\"", "fn \"i\"  \"i\" : \"b\" \"t\"", "fn \"i\"  : \"b\" \"t\"", "fn \"i\" :: \"b\" \"t\"", "fn : : \"b\" \"t\"", "fn \"i\" : : \"b\" \"t\"", "fn \"i\" : \"b\" : \"t\"", "fn \"i\" : \"b\" \"t\" :", "fn \"i\" ; \"b\" \"t\"", "fn \"i\" \":\" \"b\" \"t\"", "fn : i b", "fn i : \"b\" \"t\"", "fn ,\"i\" : \"b\" \"t\"", "fn \"i\", \"i\" : \"b\" \"t\"", "fn 0 : \"b\" \"t\"", "Fn : \"b\" \"t\"", "rec : \"b\" \"t\"", "fn 0 0", "fn : 0 0",
	} {
		wantRefused(t, line+"\n", 1)
		wantRefused(t, "fn : \"\" \"\"\n"+line+"\n", 2)
		wantRefused(t, "fn : \"\" \"\"\n ret 0 0\n"+line+"\n ret 0 0\n", 3)
	}
}

// Blanks too many or too few, and words too many or too few, in lines of the first kinds.
func TestFirstLinesThatAreNone(t *testing.T) {
	for _, line := range []string{
		"num 7 ", " num 7", "num  7", "num\t7", "num 7\r", "num 7 8", "num 7 0 0", "num \"7\"", "num 7\x00", "num 7num 8", "num 7;", "number 7", "n 7",
		"text \"a\" ", " text \"a\"", "text  \"a\"", "text \"a\" \"b\"", "text \"a\"\"b\"", "text 7", "text a", "text\t\"a\"", "Text \"a\"", "texts \"a\"", "text \"a\" 0",
		"type \"i\" ", " type \"i\"", "type  \"i\"", "type \"i\" \"b\"", "type i", "type 7", "types \"i\"", "type \"i\"type \"i\"",
		"cast ", "cast \"i\"", "cast \"i\" ", "cast \"i\" \"?\" ", " cast \"i\" \"?\"", "cast  \"i\" \"?\"", "cast \"i\"  \"?\"", "cast \"i\"\"?\"", "cast \"i\" \"?\" \"?\"", "cast \"i\" \"?\"  2.0.1.105.0.0.0", "cast \"i\" \"?\" 2.0.1.105.0.0.0 ", "cast \"i\" : \"?\"", "cast i ?", "casts \"i\" \"?\"", "cast \"i\", \"?\"",
	} {
		wantLineRefused(t, line)
	}
}

// Each line with a byte put into it, changed, or left out, at each place: held against the chapter's words.
func TestEachByteOfLines(t *testing.T) {
	stock := "\x00\t\n\r !\"#+-.0123789:AFX\\_acefgilnopstx~\x7f\x80\xff"
	count := map[bool]int{}
	for _, lines := range [][2]string{
		{"", "num 0\n"}, {"", "num 10\n"}, {"num 1\n", "num -207\n"}, {"", "num 9223372036854775807\n"}, {"", "num -9223372036854775808\n"},
		{"num 1\n", "text \"\"\n"}, {"", "text \"a \\x0a\\x5c:\"\n"}, {"text \"a\"\n", "type \">i?\"\n"},
		{"type \"i\"\n", "cast \"i\" \"\" 2.0.1.105.0.0.0\n"}, {"", "cast \"\\xff\" \"x?\"\n"}, {"", "cast \"\" \"\" -128.-1.0.255.70.9.10 7.0.1.0.0.0.0\n"},
		{"", "fn : \"\" \"i\"\n"}, {"cast \"\" \"\"\n", "fn \"i\" \":\\x22\" : \"b\" \"\"\n"},
		{"fn : \"\" \"i\"\n", " call 0 0\n"}, {"fn : \"\" \"i\"\n", " text 10 -7\n"}, {"fn : \"\" \"i\"\n ret 0 0\n", " #99 -3 0\n"}, {"fn : \"\" \"i\"\n", " #-128 9223372036854775807 -9223372036854775808\n"},
	} {
		ahead, line := lines[0], lines[1]
		for at := range len(line) + 1 {
			for _, b := range []byte(stock) {
				count[wantAsWords(t, ahead+line[:at]+string([]byte{b})+line[at:])]++
				if at < len(line) {
					count[wantAsWords(t, ahead+line[:at]+string([]byte{b})+line[at+1:])]++
				}
			}
			if at < len(line) {
				count[wantAsWords(t, ahead+line[:at]+line[at+1:])]++
			}
		}
	}
	if count[true] < 1500 || count[false] < 10000 {
		t.Errorf("too few kinds of texts: %v", count)
	}
}

// All texts of at most so many pieces.
func TestAllShortTexts(t *testing.T) {
	count := map[bool]int{}
	var lay func(text string, pieces []string, more int)
	lay = func(text string, pieces []string, more int) {
		count[wantAsWords(t, text)]++
		for _, p := range pieces {
			if more > 0 {
				lay(text+p, pieces, more-1)
			}
		}
	}
	lay("", strings.Split("num |7|0|-|\n", "|"), 6)
	lay("num 7\n", strings.Split("text |type |\"|a|\\x22|\n", "|"), 6)
	lay("", strings.Split("cast| \"\"| | 1.0.0.0.0.0.0|\n", "|"), 6)
	lay("cast \"\" \"\" 1", strings.Split(".0.0|.0|.1|0| 1|\n", "|"), 6)
	lay("fn", strings.Split(" \"\"| :| |\n| ret 0 0", "|"), 7)
	lay("fn : \"\" \"\"\n", strings.Split(" call| #99| 0| -7|0|\n", "|"), 6)
	if count[true] < 250 || count[false] < 100000 {
		t.Errorf("too few kinds of texts: %v", count)
	}
}
