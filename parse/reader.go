package parse

import (
	"bytes"

	"culprit/api"
	"culprit/text"
)

// fault is thrown where a source can't be answered, and caught at the face.
type fault struct {
	e  api.Errno
	at api.Place
}

// reader goes through tokens from the left. Behind the last one stands one of no kind at the source's end: what is refused there is told at its place, as anywhere.
type reader struct {
	tokens []text.Token
	next   int
}

func readerOf(tokens []text.Token, end api.Place) reader {
	return reader{tokens: append(tokens, text.Token{At: end})}
}

// endOf answers the place of a byte that would stand behind the last one of a source.
func endOf(src []byte) api.Place {
	lines := bytes.Count(src, []byte{'\n'})
	start := bytes.LastIndexByte(src, '\n') + 1
	return api.Place{Line: lines + 1, Col: len(src) - start + 1}
}

func (r *reader) kind() int8 {
	return r.tokens[r.next].Kind
}

func (r *reader) place() api.Place {
	return r.tokens[r.next].At
}

// sign answers the word or the mark that stands next, "" where something else does: a Text may say what a word does.
func (r *reader) sign() string {
	switch r.kind() {
	case text.Word, text.Mark:
		return r.tokens[r.next].S
	}
	return ""
}

// take passes over the next token, which its caller has looked at: it is not the one at the end.
func (r *reader) take() text.Token {
	r.next++
	return r.tokens[r.next-1]
}

// expect takes the one word or mark that can stand next, and answers its place.
func (r *reader) expect(sign string) api.Place {
	if r.sign() != sign {
		panic(r.misplaced())
	}
	return r.take().At
}

// name takes the name that alone can stand next.
func (r *reader) name() text.Token {
	if r.kind() != text.Name {
		panic(r.misplaced())
	}
	return r.take()
}

// finish refuses whatever stands behind a source that is complete.
func (r *reader) finish() {
	if r.next < len(r.tokens)-1 {
		panic(r.misplaced())
	}
}

// misplaced is what to throw where no source goes on with the next token.
func (r *reader) misplaced() fault {
	return fault{api.ErrParse, r.place()}
}
