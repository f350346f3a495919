// Package text is layer 1: sources are cut into tokens.
package text

import "culprit/api"

// The kinds of tokens.
const (
	Word   int8 = 1 // a word of the language: S
	Name   int8 = 2 // S
	Number int8 = 3 // N
	Text   int8 = 4 // S: what it stands for
	Mark   int8 = 5 // S
)

// Token is one piece of a source, with the place of its first byte.
type Token struct {
	Kind int8
	N    int64
	S    string
	At   api.Place
}

// Tokens cuts a source into its tokens. Of a source that has none to answer it tells the first fault and its place.
func Tokens(src []byte) ([]Token, api.Errno, api.Place) {
	if len(src) > api.MaxSource {
		return nil, api.ErrLong, api.Place{}
	}
	r := reader{src: src, words: wordKinds()}
	var tokens []Token
	var token Token
	var place api.Place
	fault := api.OK
source:
	for r.at < len(src) {
		switch first := src[r.at]; {
		case first == '#':
			r.passRemark()
			// The byte 10 that ends a remark is no part of it: it is passed over as any blank is.
			fallthrough
		case isBlank(first):
			r.passBlanks()
		default:
			place = r.place()
			token, fault = r.token(first)
			if fault != api.OK {
				break source
			}
			token.At = place
			tokens = append(tokens, token)
		}
	}
	if fault != api.OK {
		return nil, fault, place
	}
	return tokens, api.OK, api.Place{}
}

// IsWord tells whether s is one of the words of the language.
func IsWord(s string) bool {
	return wordKinds()[s] == Word
}

// IsName tells whether s may name a thing.
func IsName(s string) bool {
	if s == "" || len(s) > api.MaxName || !isLetter(s[0]) {
		return false
	}
	for i := range len(s) {
		if !isInner(s[i]) {
			return false
		}
	}
	return !IsWord(s)
}

// Quote answers the token, as it stands in a source, of the Text s.
func Quote(s string) (string, api.Errno) {
	if len(s) > api.MaxText {
		return "", api.ErrText
	}
	quoted := []byte{'"'}
	for i := range len(s) {
		switch b := s[i]; {
		case b == '\n':
			quoted = append(quoted, '\\', 'n')
		case b == '"' || b == '\\':
			quoted = append(quoted, '\\', b)
		case isSeen(b):
			quoted = append(quoted, b)
		default:
			return "", api.ErrText
		}
	}
	return string(append(quoted, '"')), api.OK
}
