package text_test

import (
	"slices"
	"strconv"
	"strings"
	"testing"

	"culprit/api"
	"culprit/text"
)

// dice deals numbers by a rule, so that each run of a test deals the same ones.
type dice uint64

func (d *dice) below(n int) int {
	*d = *d*6364136223846793005 + 1442695040888963407
	return int(uint64(*d) >> 33 % uint64(n))
}

// fragments of which sources are put together; many of them can stand right behind one another, some cannot be.
func fragments() []string {
	l := append(allMarks(), allWords()...)
	return append(l, "x", "y_1", "Z", "0", "7", "41", "9223372036854775807", `""`, `"a"`, `"\n\\\""`, `"# no remark"`,
		" ", " ", "\n", "\t", "\r\n", "# remark\n", "#\n", "# \"\xff\n", "\n\n ", "#", "00", "$", `"`, strings.Repeat("n", 32), strings.Repeat("n", 33))
}

// sources hands out sources, and what they are cut into, that have tokens.
func sources(t *testing.T, want int, see func(src string, l []text.Token)) {
	t.Helper()
	var d dice = 1
	parts := fragments()
	good := 0
	for tries := 0; good < want; tries++ {
		if tries == 100*want {
			t.Fatalf("P1.1: only %d of %d sources have tokens", good, tries)
		}
		var b strings.Builder
		for range d.below(12) {
			b.WriteString(parts[d.below(len(parts))])
		}
		if l, e, _ := text.Tokens([]byte(b.String())); e == api.OK {
			good++
			see(b.String(), l)
		}
	}
}

// said: a token as it stands in a source; there is just one way to write it.
func said(t *testing.T, x text.Token) string {
	t.Helper()
	switch x.Kind {
	case text.Number:
		return strconv.FormatInt(x.N, 10)
	case text.Text:
		q, e := text.Quote(x.S)
		if e != api.OK {
			t.Fatalf("what follows: the Text %q has no token", x.S)
		}
		return q
	}
	return x.S
}

// offset: of a place in a source, -1 if it has none.
func offset(src string, p api.Place) int {
	lines := strings.SplitAfter(src, "\n")
	if p.Line < 1 || p.Line > len(lines) || p.Col < 1 || p.Col > len(lines[p.Line-1])+1 {
		return -1
	}
	return len(strings.Join(lines[:p.Line-1], "")) + p.Col - 1
}

func onlyBlanksAndRemarks(s string) bool {
	for s != "" {
		if s[0] == '#' {
			end := strings.IndexByte(s, '\n')
			if end < 0 {
				return true
			}
			s = s[end:]
		}
		if strings.IndexByte("\t\n\r ", s[0]) < 0 {
			return false
		}
		s = s[1:]
	}
	return true
}

func withoutPlaces(l []text.Token) []text.Token {
	l = slices.Clone(l)
	for i := range l {
		l[i].At = api.Place{}
	}
	return l
}

// What follows: what stands ahead of, between and behind the tokens is blanks and remarks alone; places rise.
func TestGapsAreBlanksAndRemarks(t *testing.T) {
	sources(t, 3000, func(src string, l []text.Token) {
		end := 0
		for _, x := range l {
			from := offset(src, x.At)
			if from < end || !strings.HasPrefix(src[from:], said(t, x)) {
				t.Fatalf("what follows: of %q: %v does not stand at its place behind %d", src, x, end)
			}
			if !onlyBlanksAndRemarks(src[end:from]) {
				t.Fatalf("what follows: of %q: %q is passed over", src, src[end:from])
			}
			end = from + len(said(t, x))
		}
		if !onlyBlanksAndRemarks(src[end:]) {
			t.Fatalf("what follows: of %q: %q at the end is passed over", src, src[end:])
		}
	})
}

// What follows: blanks put between two tokens change places alone.
func TestBlanksBetweenChangePlacesAlone(t *testing.T) {
	blanks := []string{" ", "\n", "\t", "\r", "\r\n \t", "# remark\n", "\n#\n\n"}
	sources(t, 1500, func(src string, l []text.Token) {
		for i := range l {
			from := offset(src, l[i].At)
			wider := src[:from] + blanks[i%len(blanks)] + src[from:]
			got, e, _ := text.Tokens([]byte(wider))
			if e != api.OK || !slices.Equal(withoutPlaces(got), withoutPlaces(l)) || !slices.Equal(got[:i], l[:i]) {
				t.Fatalf("what follows: %q has other tokens than %q: %v", wider, src, got)
			}
		}
	})
}

// What follows: the tokens' texts with a blank between have the same tokens.
func TestTokensThereAndBack(t *testing.T) {
	sources(t, 3000, func(src string, l []text.Token) {
		var texts []string
		for _, x := range l {
			texts = append(texts, said(t, x))
		}
		again := strings.Join(texts, " ")
		got, e, _ := text.Tokens([]byte(again))
		if e != api.OK || !slices.Equal(withoutPlaces(got), withoutPlaces(l)) {
			t.Fatalf("what follows: of %q: %q has other tokens: %v", src, again, got)
		}
	})
}

// What follows: Tokens of Quote(s) is the one Text of s.
func TestQuoteIsOneText(t *testing.T) {
	var d dice = 7
	for range 3000 {
		var b strings.Builder
		for range d.below(api.MaxText + 1) {
			b.WriteByte("\n\"\\n# ~az09"[d.below(11)])
		}
		s := b.String()
		q, e := text.Quote(s)
		if e != api.OK {
			t.Fatalf("P1.3: Quote(%q): %d", s, e)
		}
		wantTokens(t, q, quote(s, at(1, 1)))
	}
	for b := range 256 {
		s := "<" + string([]byte{byte(b)}) + ">"
		if q, e := text.Quote(s); e == api.OK {
			wantTokens(t, q, quote(s, at(1, 1)))
		}
	}
}

// R1, R2: whatever bytes it is given, a call ends, with tokens or with a fault and its place alone.
func TestAnyBytes(t *testing.T) {
	var d dice = 3
	for range 20000 {
		src := make([]byte, d.below(20))
		for i := range src {
			src[i] = byte(d.below(256))
			if d.below(2) == 0 {
				src[i] = "\"\\n# \n0a-=>:+"[d.below(13)]
			}
		}
		l, e, place := text.Tokens(src)
		if e == api.OK && place != (api.Place{}) || e != api.OK && (len(l) > 0 || offset(string(src), place) < 0) {
			t.Fatalf("R2: Tokens(%q) = %v, %d, %v", src, l, e, place)
		}
		text.IsWord(string(src))
		text.IsName(string(src))
		text.Quote(string(src))
	}
}
