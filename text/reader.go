package text

import (
	"strconv"
	"strings"

	"culprit/api"
)

// The marks of one byte, each byte one of them.
const shortMarks = "()[]{},:;.=<+-*?!"

// reader goes through a source from the left.
type reader struct {
	src   []byte
	words map[string]int8
	at    int // the next byte
	lines int // the bytes 10 ahead
	start int // where the line begins
}

func (r *reader) place() api.Place {
	return api.Place{Line: r.lines + 1, Col: r.at - r.start + 1}
}

func (r *reader) passRemark() {
	for r.at < len(r.src) && r.src[r.at] != '\n' {
		r.at++
	}
}

// passBlanks alone counts lines: in a remark or a token no byte 10 can stand.
func (r *reader) passBlanks() {
	for r.at < len(r.src) && isBlank(r.src[r.at]) {
		r.at++
		if r.src[r.at-1] == '\n' {
			r.lines++
			r.start = r.at
		}
	}
}

// token reads what begins with the byte first, which stands next; its place is left to the caller.
func (r *reader) token(first byte) (Token, api.Errno) {
	switch {
	case isLetter(first):
		return r.word()
	case isDigit(first):
		return r.number()
	case first == '"':
		return r.text()
	}
	return r.mark()
}

func (r *reader) word() (Token, api.Errno) {
	s := r.inner()
	if r.words[s] == Word {
		return Token{Kind: Word, S: s}, api.OK
	}
	if len(s) > api.MaxName {
		return Token{}, api.ErrName
	}
	return Token{Kind: Name, S: s}, api.OK
}

func (r *reader) number() (Token, api.Errno) {
	s := r.inner()
	if s[0] == '0' && len(s) > 1 {
		return Token{}, api.ErrNumber
	}
	// s begins with a digit, so no sign is taken; in tens no letter and no _ is.
	n, err := strconv.ParseInt(s, 10, 64)
	if err != nil {
		return Token{}, api.ErrNumber
	}
	return Token{Kind: Number, N: n}, api.OK
}

// inner takes the letters, digits and _ that stand next.
func (r *reader) inner() string {
	from := r.at
	for r.at < len(r.src) && isInner(r.src[r.at]) {
		r.at++
	}
	return string(r.src[from:r.at])
}

func (r *reader) text() (Token, api.Errno) {
	var said []byte
	r.at++
	for r.at < len(r.src) && r.src[r.at] != '"' {
		b, ok := r.textByte()
		if !ok || len(said) == api.MaxText {
			return Token{}, api.ErrText
		}
		said = append(said, b)
	}
	if r.at == len(r.src) {
		return Token{}, api.ErrText
	}
	r.at++
	return Token{Kind: Text, S: string(said)}, api.OK
}

// textByte takes what stands for the next byte of a Text.
func (r *reader) textByte() (byte, bool) {
	b := r.src[r.at]
	r.at++
	if b != '\\' {
		return b, isSeen(b)
	}
	if r.at == len(r.src) {
		return 0, false
	}
	b = r.src[r.at]
	r.at++
	if b == 'n' {
		return '\n', true
	}
	return b, b == '"' || b == '\\'
}

// mark tries two bytes ahead of one, since the longest mark is taken.
func (r *reader) mark() (Token, api.Errno) {
	long := 1
	if r.at+2 <= len(r.src) && isLongMark(string(r.src[r.at:r.at+2])) {
		long = 2
	} else if strings.IndexByte(shortMarks, r.src[r.at]) < 0 {
		return Token{}, api.ErrByte
	}
	s := string(r.src[r.at : r.at+long])
	r.at += long
	return Token{Kind: Mark, S: s}, api.OK
}

func isLongMark(s string) bool {
	switch s {
	case "->", "=>", ":=", "==", "++":
		return true
	}
	return false
}
