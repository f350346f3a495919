package text

func isBlank(b byte) bool {
	return b == '\t' || b == '\n' || b == '\r' || b == ' '
}

func isLetter(b byte) bool {
	return 'a' <= b && b <= 'z' || 'A' <= b && b <= 'Z'
}

func isDigit(b byte) bool {
	return '0' <= b && b <= '9'
}

// isInner: b goes on with the word, name or number that it stands behind.
func isInner(b byte) bool {
	return isLetter(b) || isDigit(b) || b == '_'
}

// isSeen: b is one of the bytes that a Text may have, the byte 10 aside.
func isSeen(b byte) bool {
	return 32 <= b && b <= 126
}

// wordKinds answers the words of the language, each with its kind; a text that is none of them has the kind 0 there.
func wordKinds() map[string]int8 {
	return map[string]int8{
		"module": Word, "import": Word, "export": Word,
		"let": Word, "rec": Word, "in": Word,
		"if": Word, "then": Word, "else": Word,
		"fn": Word, "true": Word, "false": Word,
		"int": Word, "bool": Word, "text": Word, "box": Word,
		"first": Word, "second": Word,
		"head": Word, "tail": Word, "empty": Word, "cons": Word,
		"size": Word,
	}
}
