package types_test

import (
	"strings"
	"testing"

	"culprit/api"
	"culprit/types"
)

// dice deals numbers by a rule, so that each run of a test deals the same ones.
type dice uint64

func (d *dice) below(n int) int {
	*d = *d*6364136223846793005 + 1442695040888963407
	return int(uint64(*d) >> 33 % uint64(n))
}

// typeOf deals a type of at most room letters, room being at least 1.
func (d *dice) typeOf(room int) string {
	head := letters[d.below(len(letters))]
	if room >= 8 && d.below(4) > 0 {
		head = letters[4+d.below(4)] // else most types would be one letter
	}
	switch n := arity(head); {
	case n == 0 || n >= room:
		leaf := d.below(4)
		return letters[leaf : leaf+1]
	case n == 1:
		return string([]byte{head}) + d.typeOf(room-1)
	default:
		first := d.typeOf(1 + d.below(room-2))
		return string([]byte{head}) + first + d.typeOf(room-1-len(first))
	}
}

// eachType hands out all types of at most long letters, and some large ones.
func eachType(long, some int, see func(string)) {
	eachText(letters, long, func(s string) {
		if end, ok := typeAt(s, 0); ok && end == len(s) {
			see(s)
		}
	})
	var d dice = 5
	for range some {
		see(d.typeOf(api.MaxType))
	}
}

// What follows: Read of a type's words is the type; Make of its head and parts is it.
func TestTypesThereAndBack(t *testing.T) {
	large := 0
	eachType(6, 5000, func(s string) {
		large = max(large, len(s))
		words, e := types.Words(s)
		if e != api.OK {
			t.Fatalf("P2.4: Words(%q): %d", s, e)
		}
		wantRead(t, words, s)
		wantMake(t, s, api.OK, types.Head(s), types.Parts(s)...)
		wantCheck(t, s, api.OK, 0)
	})
	if large < api.MaxType {
		t.Errorf("no type of %d letters was dealt, only of %d", api.MaxType, large)
	}
}

// Of all types of MaxType letters these have words with the most open at once: read they must be.
func TestTheDeepestWordsAreRead(t *testing.T) {
	for _, s := range []string{
		strings.Repeat("x>i", 21) + "i", strings.Repeat("x>", 21) + "i" + strings.Repeat("b", 21), strings.Repeat("x", 63) + "i",
		strings.Repeat(">", 31) + strings.Repeat("i", 32), strings.Repeat("lx", 31) + "l?", strings.Repeat("x,", 21) + strings.Repeat("t", 22),
	} {
		words, _ := types.Words(s)
		wantRead(t, words, s)
	}
}

// What follows: words of what Read reads are read as the same. The words that are read here have blanks and brackets as one likes.
func TestWordsOfWhatIsRead(t *testing.T) {
	var d dice = 11
	for range 5000 {
		s := d.typeOf(1 + d.below(20))
		loose := d.spread(s)
		got, e, at := types.Read(loose)
		if got != s || e != api.OK || at != 0 {
			t.Fatalf("P2.5: Read(%q) = %q, %d, %d; want %q", loose, got, e, at, s)
		}
		words, _ := types.Words(got)
		wantRead(t, words, got)
	}
}

// spread writes a type with more brackets and blanks than are needed.
func (d *dice) spread(s string) string {
	if d.below(5) == 0 {
		return "(" + d.gap() + d.spread(s) + d.gap() + ")"
	}
	parts := types.Parts(s)
	switch s[0] {
	case '>':
		return d.arm(parts[0]) + d.gap() + "->" + d.gap() + d.spread(parts[1])
	case ',':
		return "(" + d.gap() + d.spread(parts[0]) + d.gap() + "," + d.gap() + d.spread(parts[1]) + d.gap() + ")"
	case 'l':
		return "[" + d.gap() + d.spread(parts[0]) + d.gap() + "]"
	case 'x':
		return "box " + d.gap() + d.arm(parts[0])
	}
	return map[byte]string{'i': "int", 'b': "bool", 't': "text", '?': "?"}[s[0]]
}

func (d *dice) arm(s string) string {
	if s[0] == '>' {
		return "(" + d.gap() + d.spread(s) + ")"
	}
	return d.spread(s)
}

func (d *dice) gap() string {
	return []string{"", "", " ", "\n", "\t \r\n"}[d.below(5)]
}

// What follows: a type is no beginning of another one; a text has at most one type at its beginning.
func TestOneTypeAtTheBeginning(t *testing.T) {
	eachText(letters, 6, func(s string) {
		found := 0
		for n := range len(s) + 1 {
			if e, _ := types.Check(s[:n]); e == api.OK {
				found++
			}
		}
		if found > 1 {
			t.Errorf("what follows: %q begins with %d types", s, found)
		}
	})
	eachType(0, 2000, func(s string) {
		for n := range len(s) {
			wantCheck(t, s[:n], api.ErrShape, n)
		}
		if len(s) < api.MaxType {
			wantCheck(t, s+"i", api.ErrShape, len(s))
		}
	})
}

// judge goes through tokens by the grammar with a stack of what must come, and answers the first fault, or OK.
func judge(tokens []string) (api.Errno, int) {
	stack, open := []string{"end", "type"}, 0
	for i, token := range append(tokens, "end") {
		for matched := false; !matched; {
			top := stack[len(stack)-1]
			stack = stack[:len(stack)-1]
			opens := true
			switch {
			case top == "shut":
				open--
				continue
			case top == "type":
				stack = append(stack, "arrow", "arm")
				continue
			case top == "arrow" && token == "->":
				stack = append(stack, "shut", "type")
			case top == "comma" && token == ",":
				stack = append(stack, "type")
				opens = false
			case top == "arrow" || top == "comma":
				continue
			case top == "arm" && token == "(":
				stack = append(stack, "shut", ")", "comma", "type")
			case top == "arm" && token == "[":
				stack = append(stack, "shut", "]", "type")
			case top == "arm" && token == "box":
				stack = append(stack, "shut", "arm")
			case top == token, top == "arm" && strings.Contains(" int bool text ? ", " "+token+" "):
				opens = false
			case token == "#":
				return api.ErrByte, i
			default:
				return api.ErrParse, i
			}
			matched = true
			if opens {
				open++
			}
			if open > api.MaxNest {
				return api.ErrDeep, i
			}
		}
	}
	return api.OK, 0
}

// wantJudged: Read answers as judge does; the marks and words that are no parentheses are the type's letters, one each.
func wantJudged(t *testing.T, tokens []string) {
	t.Helper()
	words := strings.Join(tokens, " ")
	if e, i := judge(tokens); e != api.OK {
		at := len(words)
		if i < len(tokens) {
			at = len(strings.Join(tokens[:i], " ")) + min(i, 1)
		}
		wantNone(t, words, e, at)
		return
	}
	size := 0
	for _, token := range tokens {
		if strings.IndexAny(token, "()]") < 0 {
			size++
		}
	}
	if got, e, at := types.Read(words); size > api.MaxType {
		wantNone(t, words, api.ErrLarge, 0)
	} else if e != api.OK || at != 0 || len(got) != size {
		t.Errorf("P2.5: Read(%q) = %q, %d, %d; want %d letters", words, got, e, at, size)
	}
}

func with(tokens []string, next string) []string {
	return append(tokens[:len(tokens):len(tokens)], next)
}

// tokensOf deals tokens of which most types go on with all, or with all but the last.
func (d *dice) tokensOf(all []string) []string {
	favourite := all[d.below(len(all))]
	steps := d.below(400)
	var tokens []string
	for range 2 * steps {
		next := all[d.below(len(all))]
		if steps > 0 && d.below(2) == 0 {
			next = favourite
		}
		steps--
		e, at := judge(with(tokens, next))
		if e == api.OK || at > len(tokens) || d.below(1000) == 0 {
			tokens = with(tokens, next)
		} else if e == api.ErrDeep {
			return with(tokens, next)
		}
	}
	return tokens
}

// P2.5: whatever tokens stand there, the first fault is told, at its token.
func TestReadOfAnyTokens(t *testing.T) {
	all := []string{"int", "bool", "?", "->", "(", ")", "[", "]", ",", "box", "foo", "#"}
	var grow func(tokens []string)
	grow = func(tokens []string) {
		wantJudged(t, tokens)
		if len(tokens) < 4 {
			for _, token := range all {
				grow(with(tokens, token))
			}
		}
	}
	grow(nil)

	var d dice = 23
	told := map[api.Errno]int{}
	for range 1000 {
		tokens := d.tokensOf(all)
		wantJudged(t, tokens)
		_, e, _ := types.Read(strings.Join(tokens, " "))
		told[e]++
	}
	for _, e := range []api.Errno{api.OK, api.ErrByte, api.ErrParse, api.ErrDeep, api.ErrLarge} {
		if told[e] == 0 {
			t.Errorf("no words were dealt that are answered with %d: %v", e, told)
		}
	}
}

// R1, R2: whatever bytes it is given, a call ends; beside a fault nothing is told, beside a type no place.
func TestAnyBytes(t *testing.T) {
	var d dice = 3
	for range 20000 {
		b := make([]byte, d.below(30))
		for i := range b {
			b[i] = byte(d.below(256))
			if d.below(3) > 0 {
				b[i] = "ibt?>,lx()[]-> \n"[d.below(16)]
			}
		}
		s := string(b)
		got, e, at := types.Read(s)
		if e == api.OK && (at != 0 || types.Height(got) == 0) || e != api.OK && (got != "" || at < 0 || at > len(s)) {
			t.Errorf("R2: Read(%q) = %q, %d, %d", s, got, e, at)
		}
		if e, at := types.Check(s); e == api.OK && at != 0 || at < 0 || at > len(s) {
			t.Errorf("R2: Check(%q) = %d, %d", s, e, at)
		}
		types.Make(byte(d.below(256)), s, s)
		types.Words(s)
	}
}
