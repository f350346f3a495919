package label

import "strconv"

// The rules by which casts are laid, by number.
const (
	noRule = iota
	bodyRule
	letRule
	calledRule
	argumentRule
	conditionRule
	thenRule
	elseRule
	intRule
	textRule
	pairRule
	listRule
	boxRule
	elementRule
	firstRule
	setRule
	asRule
	defRule
	importRule
)

var ruleWords = [...]string{
	noRule:        "",
	bodyRule:      "body",
	letRule:       "let",
	calledRule:    "called",
	argumentRule:  "argument",
	conditionRule: "condition",
	thenRule:      "then",
	elseRule:      "else",
	intRule:       "int",
	textRule:      "text",
	pairRule:      "pair",
	listRule:      "list",
	boxRule:       "box",
	elementRule:   "element",
	firstRule:     "first",
	setRule:       "set",
	asRule:        "as",
	defRule:       "def",
	importRule:    "import",
}

// Rule answers the word of a rule; the empty text of what is none.
func Rule(n int) string {
	if n < 0 || n >= len(ruleWords) {
		return ""
	}
	return ruleWords[n]
}

// ruleText answers the word of a rule, or the number itself.
func ruleText(n int) string {
	if word := Rule(n); word != "" {
		return word
	}
	return strconv.Itoa(n)
}
