package code

import (
	"strconv"
	"strings"
)

// A word reads what a text begins with, if that is of its kind, and answers what stands behind it.
type word func(text string) (behind string, ok bool)

// row reads words that stand one behind the other; if one of them does not stand there, it reads nothing.
func row(words ...word) word {
	return func(text string) (string, bool) {
		behind, ok := text, true
		for _, next := range words {
			if behind, ok = next(behind); !ok {
				goto fault
			}
		}
		return behind, true
	fault:
		return text, false
	}
}

// many reads as many of one kind as stand there, into the list all.
func many[T any](all *[]T, kind func(*T) word) word {
	var none, one T
	read := kind(&one)
	return func(text string) (string, bool) {
		for {
			one = none // each has lists of its own
			behind, ok := read(text)
			if !ok {
				return text, true
			}
			*all, text = append(*all, one), behind
		}
	}
}

func exactly(what string) word {
	return func(text string) (string, bool) { return strings.CutPrefix(text, what) }
}

// number reads one that the field holds. Whatever would not be told just so is none: a needless nought, a sign +.
func number[T int8 | byte | int | int64](field *T) word {
	return func(text string) (string, bool) {
		behind := strings.TrimLeft(text, "-0123456789")
		told := text[:len(text)-len(behind)]
		n, err := strconv.ParseInt(told, 10, 64)
		*field = T(n)
		return behind, err == nil && strconv.FormatInt(n, 10) == told && int64(*field) == n
	}
}

func truth(field *bool) word {
	var n byte
	read := number(&n)
	return func(text string) (string, bool) {
		behind, ok := read(text)
		*field = n == 1
		return behind, ok && n <= 1
	}
}

func quoted(field *string) word {
	return func(text string) (string, bool) {
		var told strings.Builder // memory of its own: a piece of the text would keep all of it
		text, ok := strings.CutPrefix(text, `"`)
		for ok {
			if behind, ends := strings.CutPrefix(text, `"`); ends {
				*field = told.String()
				return behind, true
			}
			var b byte
			b, text, ok = cutByte(text)
			told.WriteByte(b)
		}
		return "", false
	}
}

// cutByte cuts a byte off as it stands in quotes.
func cutByte(text string) (b byte, behind string, ok bool) {
	if text == "" {
		return 0, "", false
	}
	if isPlain(text[0]) {
		return text[0], text[1:], true
	}
	if len(text) < 4 || text[:2] != `\x` {
		return 0, "", false
	}
	high, low := strings.IndexByte(hexDigits, text[2]), strings.IndexByte(hexDigits, text[3])
	b = byte(high<<4 + low)
	return b, text[4:], high >= 0 && low >= 0 && !isPlain(b)
}

// op reads the name of an op, or the number of one that has none.
func op(field *int8) word {
	unnamed := row(exactly("#"), number(field))
	return func(text string) (string, bool) {
		if behind, ok := unnamed(text); ok {
			return behind, Name(*field) == ""
		}
		told, _, _ := strings.Cut(text, " ")
		for n, name := range names {
			if name == told && name != "" {
				*field = int8(n)
				return text[len(name):], true
			}
		}
		return "", false
	}
}
