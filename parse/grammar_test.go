package parse_test

import (
	"slices"
	"strconv"
	"strings"
	"testing"

	"culprit/api"
)

// The chapter's grammar, word by word.
const grammarText = `
    modules = { module }
    module  = "module" name "{" { import } { def } "}"
    import  = "import" name "." name [ ":" type ] ";"
    def     = [ "export" ] "let" name [ ":" type ] "=" expr ";"
    expr    = "fn" "(" name [ ":" type ] ")" [ ":" type ] "=>" expr
            | "rec" name "(" name [ ":" type ] ")" [ ":" type ] "=>" expr
            | "let" name [ ":" type ] "=" expr "in" expr
            | "if" expr "then" expr "else" expr
            | rank [ ":=" expr ]
    rank    = sum [ ( "==" | "<" ) sum ]
    sum     = term { ( "+" | "-" | "++" ) term }
    term    = factor { "*" factor }
    factor  = "-" factor | "!" factor | call
    call    = atom { "(" expr ")" }
    atom    = number | text | "true" | "false" | name
            | "(" expr [ "," expr | ":" type ] ")"
            | "[" [ expr { "," expr } ] "]"
            | ( "box" | "size" | "first" | "second" | "head" | "tail" | "empty" ) "(" expr ")"
            | "cons" "(" expr "," expr ")"
    type    = arm [ "->" type ]
    arm     = "int" | "bool" | "text" | "?" | "(" type [ "," type ] ")" | "[" type "]" | "box" arm
`

// symbol is a piece of the grammar.
type symbol struct {
	op   byte   // t: a token, r: a row, s: one behind the other, a: one of them, o: one or none, m: any number
	says string // of a token, a row
	kids []*symbol
}

// grammar is its rows by their names.
type grammar map[string]*symbol

// spelling reads the grammar's own text, whose words stand apart.
type spelling struct {
	words []string
	rows  []string
}

func theGrammar() grammar {
	g := grammar{}
	s := &spelling{words: strings.Fields(grammarText)}
	for i, w := range s.words {
		if w == "=" {
			s.rows = append(s.rows, s.words[i-1])
		}
	}
	for len(s.words) > 0 {
		name := s.words[0]
		s.words = s.words[2:]
		g[name] = s.oneOf()
	}
	return g
}

func (s *spelling) oneOf() *symbol {
	all := &symbol{op: 'a', kids: []*symbol{s.behind()}}
	for len(s.words) > 0 && s.words[0] == "|" {
		s.words = s.words[1:]
		all.kids = append(all.kids, s.behind())
	}
	return all
}

func (s *spelling) behind() *symbol {
	all := &symbol{op: 's'}
	for len(s.words) > 0 && !slices.Contains([]string{"|", ")", "]", "}"}, s.words[0]) && (len(s.words) == 1 || s.words[1] != "=") {
		w := s.words[0]
		s.words = s.words[1:]
		switch w {
		case "(", "[", "{":
			op := map[string]byte{"(": 's', "[": 'o', "{": 'm'}[w]
			all.kids = append(all.kids, &symbol{op: op, kids: []*symbol{s.oneOf()}})
			s.words = s.words[1:]
		default:
			op := byte('t')
			if slices.Contains(s.rows, w) {
				op = 'r'
			}
			all.kids = append(all.kids, &symbol{op: op, says: w})
		}
	}
	return all
}

// stack is one way in which a source may go on: a symbol, and what comes behind it; nil: it is complete.
type stack struct {
	top  *symbol
	rest *stack
}

// ways are all of them, each with a token on top, or complete.
type ways []*stack

func (g grammar) begin(row string) ways { return g.spread(nil, &stack{top: g[row]}) }

// spread lays open what may stand first.
func (g grammar) spread(all ways, s *stack) ways {
	if s == nil || s.top.op == 't' {
		return append(all, s)
	}
	switch s.top.op {
	case 'r':
		return g.spread(all, &stack{g[s.top.says], s.rest})
	case 's':
		rest := s.rest
		for _, kid := range slices.Backward(s.top.kids) {
			rest = &stack{kid, rest}
		}
		return g.spread(all, rest)
	case 'o', 'm':
		all = g.spread(all, s.rest)
	}
	rest := s.rest
	if s.top.op == 'm' {
		rest = s
	}
	for _, kid := range s.top.kids {
		all = g.spread(all, &stack{kid, rest})
	}
	return all
}

// behind answers how it may go on behind a token; no ways: no source goes on with it.
func (g grammar) behind(w ways, token string) ways {
	var next ways
	for _, s := range w {
		if s != nil && s.top.says == token {
			next = g.spread(next, s.rest)
		}
	}
	return next
}

// tokens answers some as the grammar spells them: words and marks in quotes; literal stands for its text, since text is a word, too.
func tokens(list string) []string {
	var l []string
	for _, w := range strings.Fields(list) {
		switch w {
		case "name", "number":
		case "literal":
			w = "text"
		default:
			w = `"` + w + `"`
		}
		l = append(l, w)
	}
	return l
}

func allTokens() []string {
	return tokens(`name number literal
		module import export let rec in if then else fn true false int bool text box first second head tail empty cons size
		-> => := == ++ ( ) [ ] { } , : ; . = < + - * ? !`)
}

// written answers a source of some tokens; its Text says what a word does.
func written(l ...string) string {
	var texts []string
	for _, token := range l {
		switch token {
		case "name":
			token = "x"
		case "number":
			token = "7"
		case "text":
			token = `"fn"`
		default:
			token = strings.Trim(token, `"`)
		}
		texts = append(texts, token)
	}
	return strings.Join(texts, " ")
}

func TestTheGrammarIsRead(t *testing.T) {
	g := theGrammar()
	if len(g) != 13 || len(g["expr"].kids) != 5 || len(g["atom"].kids) != 9 || len(g["arm"].kids) != 7 {
		t.Fatalf("the tests misread the grammar: %d rows", len(g))
	}
	said := map[string]int{}
	var count func(*symbol)
	count = func(s *symbol) {
		if s.op == 't' {
			said[s.says]++
		}
		for _, kid := range s.kids {
			count(kid)
		}
	}
	for _, s := range g {
		count(s)
	}
	for _, token := range allTokens() {
		if said[token] == 0 {
			t.Errorf("the tests' grammar has no %s", token)
		}
		delete(said, token)
	}
	if len(said) > 0 {
		t.Errorf("the tests do not know these tokens: %v", said)
	}
}

// walk goes through all beginnings of sources that go on by some tokens, up to a number of them; at each one every token is tried.
type walk struct {
	g     grammar
	f     face
	by    []string
	long  int
	tried int
}

func (w *walk) from(t *testing.T, here ways, ahead []string) {
	src := written(ahead...)
	if slices.Contains(here, nil) {
		w.f.wantTaken(t, src)
	} else {
		w.f.wantRefused(t, src, api.ErrParse, at(1, len(src)+1))
	}
	if src != "" {
		src += " "
	}
	for _, token := range allTokens() {
		w.tried++
		next := w.g.behind(here, token)
		if len(next) > 0 && len(ahead) < w.long && slices.Contains(w.by, token) {
			w.from(t, next, append(slices.Clone(ahead), token))
		}
		if len(next) == 0 {
			// What stands behind it is not looked at any more.
			more := []string{"", " x ) ; }"}[w.tried%2]
			w.f.wantRefused(t, src+written(token)+more, api.ErrParse, at(1, len(src)+1))
		}
	}
	if t.Failed() {
		t.FailNow()
	}
}

// P6.1, P6.2: each token that can't stand where it stands, with the place of the first one; each beginning, with the place of its end.
func TestEveryShortSource(t *testing.T) {
	for _, c := range []struct {
		f    face
		by   []string
		long int
	}{
		{exprFace(), allTokens(), 3},
		{exprFace(), tokens("name let rec in if then else fn box cons : = => := < + - * ! ( ) [ ] , ?"), 4},
		{exprFace(), tokens("name - * + == := ( )"), 5},
		{exprFace(), tokens("name fn rec ( ) : ? =>"), 10},
		{exprFace(), tokens("name let = in : int box"), 9},
		{exprFace(), tokens("literal if then else cons head ( , )"), 6},
		{typeFace(), tokens("? box ( ) [ ] , -> text"), 5},
		{typeFace(), allTokens(), 4},
		{modulesFace(), tokens("module name { } import . : -> int ; let"), 12},
		{modulesFace(), tokens("module name { } export let : ? = ; number +"), 13},
		{modulesFace(), allTokens(), 7},
	} {
		t.Run(c.f.name+" by "+strconv.Itoa(len(c.by)), func(t *testing.T) {
			t.Parallel()
			w := walk{g: theGrammar(), f: c.f, by: c.by, long: c.long}
			w.from(t, w.g.begin(c.f.row), nil)
			if w.tried < 1000 {
				t.Errorf("only %d sources were tried", w.tried)
			}
		})
	}
}
