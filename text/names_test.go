package text_test

import (
	"strings"
	"testing"

	"culprit/api"
	"culprit/text"
)

func allWords() []string {
	return strings.Fields("module import export let rec in if then else fn true false int bool text box first second head tail empty cons size")
}

func TestIsWord(t *testing.T) {
	for _, w := range allWords() {
		if !text.IsWord(w) {
			t.Errorf("P1.2: %q is a word", w)
		}
		for _, s := range []string{strings.ToUpper(w), strings.ToUpper(w[:1]) + w[1:], w + "s", w + " ", " " + w, w + "_", w + "\x00", w[1:] + "q"} {
			if text.IsWord(s) {
				t.Errorf("P1.2: %q is no word", s)
			}
		}
	}
	for _, s := range []string{"", "x", "Let", "0", "?", "->", "module import", "fst", "list", "get", "set", "as", "cast", "pair", "\xff"} {
		if text.IsWord(s) {
			t.Errorf("P1.2: %q is no word", s)
		}
	}
}

func TestIsName(t *testing.T) {
	for _, s := range []string{"x", "X", "a1", "a_", "a_b_9", "Let", "lets", "let_", "a" + strings.Repeat("9", 31)} {
		if !text.IsName(s) {
			t.Errorf("P1.2: %q is a name", s)
		}
	}
	for _, s := range append(allWords(), "", "1a", "_", "_a", "9", "a b", " a", "a ", "a-b", "a.b", "é", "aé", "a\n", "\xff", strings.Repeat("a", 33)) {
		if text.IsName(s) {
			t.Errorf("P1.2: %q is no name", s)
		}
	}
}

func TestBytesOfNames(t *testing.T) {
	for b := range 256 {
		c := string([]byte{byte(b)})
		letter := 'a' <= b && b <= 'z' || 'A' <= b && b <= 'Z'
		inner := letter || '0' <= b && b <= '9' || b == '_'
		if text.IsName(c) != letter || text.IsName("q"+c) != inner || text.IsName("q"+c+"q") != inner {
			t.Errorf("P1.2: the byte %d: %v, %v, %v", b, text.IsName(c), text.IsName("q"+c), text.IsName("q"+c+"q"))
		}
	}
}

// A name is what Tokens tells as one Name.
func TestNamesAreTokens(t *testing.T) {
	for _, s := range []string{"x", "let", "let1", "1a", "", "_", "a b", "a$", "a#", " a", strings.Repeat("k", 32), strings.Repeat("k", 33)} {
		l, e, _ := text.Tokens([]byte(s))
		one := e == api.OK && len(l) == 1 && l[0].Kind == text.Name && l[0].S == s
		if one != text.IsName(s) {
			t.Errorf("P1.2: IsName(%q) = %v", s, !one)
		}
	}
}

func TestQuote(t *testing.T) {
	for s, want := range map[string]string{
		"":           `""`,
		"a":          `"a"`,
		"a\"\\\n b":  `"a\"\\\n b"`,
		`\n`:         `"\\n"`,
		"# let 1 '~": `"# let 1 '~"`,
		"\n\n":       `"\n\n"`,
	} {
		if got, e := text.Quote(s); got != want || e != api.OK {
			t.Errorf("P1.3: Quote(%q) = %s, %d; want %s", s, got, e, want)
		}
	}
}

func TestQuoteRefuses(t *testing.T) {
	for _, s := range []string{"\t", "\r", "a\x00", "\x1f", "\x7f", "é", "\xff", "ok\x80", strings.Repeat("a", 65), strings.Repeat("\n", 65), strings.Repeat("a", 1<<16)} {
		if got, e := text.Quote(s); got != "" || e != api.ErrText {
			t.Errorf("P1.3: Quote(%.40q) = %q, %d", s, got, e)
		}
	}
}

func TestQuoteLimit(t *testing.T) {
	for _, unit := range []struct{ s, src string }{{"a", "a"}, {"\"", `\"`}, {"\\", `\\`}, {"\n", `\n`}} {
		got, e := text.Quote(strings.Repeat(unit.s, 64))
		if want := `"` + strings.Repeat(unit.src, 64) + `"`; got != want || e != api.OK {
			t.Errorf("P1.3: of 64 times %q: %s, %d", unit.s, got, e)
		}
		if got, e := text.Quote(strings.Repeat(unit.s, 65)); got != "" || e != api.ErrText {
			t.Errorf("P1.3: of 65 times %q: %s, %d", unit.s, got, e)
		}
	}
}

func TestBytesOfQuote(t *testing.T) {
	for b := range 256 {
		s := string([]byte{byte(b)})
		got, e := text.Quote(s)
		if may := b == '\n' || 32 <= b && b <= 126; may != (e == api.OK) || may != (got != "") {
			t.Errorf("P1.3: the byte %d: %q, %d", b, got, e)
		}
	}
}
