package types

import (
	"strings"

	"culprit/api"
)

// Read answers the type that stands written in words; of words that are none the first fault and its place.
func Read(words string) (string, api.Errno, int) {
	r := reader{words: words}
	r.next()
	t := r.whole()
	if r.at < len(words) {
		r.refuse(api.ErrParse)
	}
	if r.fault != api.OK {
		return "", r.fault, r.at
	}
	// Where a part is too large Make answers no type, and none of what holds it either.
	if t == "" {
		return "", api.ErrLarge, 0
	}
	return t, api.OK, 0
}

// reader goes through words from the left, and stays where the first fault is.
type reader struct {
	words string
	token string // the next one; "" at the end, at a byte that begins none, and behind a fault
	at    int    // where it stands
	open  int
	fault api.Errno
}

// next passes over the token and the blanks behind it.
func (r *reader) next() {
	rest := r.words[r.at+len(r.token):]
	r.at, r.token = len(r.words), ""
	for i, c := range rest {
		if !isBlank(c) {
			r.at += i - len(rest)
			r.token = tokenOf(rest[i:])
			return
		}
	}
}

// refuse tells a fault at the token, if there is none yet. Without a token nothing is read any more.
func (r *reader) refuse(e api.Errno) {
	if r.fault != api.OK {
		return
	}
	r.fault = e
	if r.token == "" && r.at < len(r.words) {
		r.fault = api.ErrByte
	}
	r.token = ""
}

func (r *reader) take(token string) {
	if r.token != token {
		r.refuse(api.ErrParse)
		return
	}
	r.next()
}

// within takes the token, which opens something, and what is inside of that.
func (r *reader) within(inside func() string) string {
	if r.open == api.MaxNest {
		r.refuse(api.ErrDeep)
		return ""
	}
	r.open++
	r.next()
	t := inside()
	r.open--
	return t
}

func (r *reader) whole() string {
	from := r.arm()
	if r.token != "->" {
		return from
	}
	return r.within(func() string { return made('>', from, r.whole()) })
}

func (r *reader) arm() string {
	switch r.token {
	case "int", "bool", "text", "?":
		letter := r.token[:1] // each of these words begins with its type's letter
		r.next()
		return letter
	case "(":
		return r.within(func() string {
			t := r.whole()
			if r.token == "," {
				r.next()
				t = made(',', t, r.whole())
			}
			r.take(")")
			return t
		})
	case "[":
		return r.within(func() string {
			t := made('l', r.whole())
			r.take("]")
			return t
		})
	case "box":
		return r.within(func() string { return made('x', r.arm()) })
	}
	r.refuse(api.ErrParse)
	return ""
}

// made answers no type where one of the parts is none.
func made(head byte, parts ...string) string {
	t, _ := Make(head, parts...)
	return t
}

// tokenOf answers the token with which s begins, or "".
func tokenOf(s string) string {
	if strings.HasPrefix(s, "->") {
		return s[:2]
	}
	if strings.IndexByte("?(),[]", s[0]) >= 0 {
		return s[:1]
	}
	for i, c := range s {
		if !isLetter(c) && (i == 0 || !isInner(c)) {
			return s[:i]
		}
	}
	return s
}

func isBlank(c rune) bool {
	return c == '\t' || c == '\n' || c == '\r' || c == ' '
}

func isLetter(c rune) bool {
	return 'a' <= c && c <= 'z' || 'A' <= c && c <= 'Z'
}

// isInner: c, that is no letter, goes on with a word.
func isInner(c rune) bool {
	return '0' <= c && c <= '9' || c == '_'
}
