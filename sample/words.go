// Package sample has core terms for the tests of the layers that run them: read from texts, dealt by a rule, all short ones; and what is seen of them in words.
package sample

import (
	"strconv"
	"strings"

	"culprit/api"
)

// KindNames answers the kinds by name, from 1 on.
func KindNames() []string {
	return strings.Fields("Num Str Truth Var Fn Rec Call Let If Add Sub Mul Join Eq Less Neg Size Pair First Second List Head Tail Empty Cons Box Get Set As Cast")
}

// KindOf answers the kind of that name, 0 if there is none.
func KindOf(name string) int8 {
	for i, known := range KindNames() {
		if known == name {
			return int8(i + 1)
		}
	}
	return 0
}

// namedFields answers of a kind the fields that count beside Kind and Kids, in the order in which they are written.
func namedFields(kind int8) string {
	switch kind {
	case api.Num, api.Truth, api.Var:
		return "N"
	case api.Str:
		return "S"
	case api.Fn, api.Rec:
		return "TU"
	case api.List:
		return "T"
	case api.Cast:
		return "TUN"
	}
	return ""
}

// reader reads terms word by word.
type reader struct {
	words []string
}

// Term reads a term as the chapters write them: kind, its named fields, its kids in brackets. A _ stands for an empty text; how many kids stand there is how many the node has, whatever chapter 10 asks for. It panics if the text is no term.
func Term(text string) []api.Node {
	apart := strings.NewReplacer("(", " ( ", ")", " ) ").Replace(text)
	r := reader{strings.Fields(apart)}
	l := r.part()
	if len(r.words) > 0 {
		panic("the tests' own term has too many words: " + text)
	}
	return l
}

func (r *reader) take() string {
	word := r.words[0]
	r.words = r.words[1:]
	if len(word) > 1 { // a type ends with no comma
		word = strings.TrimSuffix(word, ",")
	}
	return word
}

func (r *reader) part() []api.Node {
	n := api.Node{Kind: KindOf(r.take())}
	if n.Kind == 0 {
		panic("the tests' own term has a word that is no kind")
	}
	for _, field := range namedFields(n.Kind) {
		switch word := strings.Trim(r.take(), "_"); field {
		case 'N':
			n.N, _ = strconv.ParseInt(word, 10, 64)
		case 'S':
			n.S = word
		case 'T':
			n.T = word
		case 'U':
			n.U = word
		}
	}
	if len(r.words) == 0 || r.words[0] != "(" {
		return []api.Node{n}
	}
	var kids [][]api.Node
	for r.take(); r.words[0] != ")"; {
		if r.words[0] == "," {
			r.take()
			continue
		}
		kids = append(kids, r.part())
	}
	r.take()
	return Node(n, kids...)
}

// longest text that Written answers of a term, some words aside: a line of a test's report stays short.
const longest = 700

// Written answers a term as Term reads it, or its beginning; of a list that is none what stands there.
func Written(l []api.Node) string {
	all := ""
	var part func(at int) int
	part = func(at int) int {
		if at >= len(l) {
			return at
		}
		n := l[at]
		all += headOf(n)
		if n.Kids == 0 || len(all) > longest {
			return at + 1
		}
		end, mark := at+1, "("
		for range n.Kids {
			all += mark
			end, mark = part(end), ", "
		}
		all += ")"
		return end
	}
	part(0)
	if len(all) > longest {
		return all[:longest] + " .."
	}
	return all
}

// headOf writes a node without its kids.
func headOf(n api.Node) string {
	all := strconv.Itoa(int(n.Kind))
	if n.Kind >= 1 && int(n.Kind) <= len(KindNames()) {
		all = KindNames()[n.Kind-1]
	}
	for _, field := range namedFields(n.Kind) {
		switch all += " "; field {
		case 'N':
			all += strconv.FormatInt(n.N, 10)
		case 'S':
			all += n.S
		case 'T':
			all += n.T
		case 'U':
			all += n.U
		}
	}
	return all
}

// Told writes an observation as words, one a node. A field that has no meaning there, and is not zero, is told as well.
func Told(all []api.Obs) string {
	words := strings.Fields("none num text truth fun box pair empty cons blame fault fuel deep")
	var list []string
	for _, o := range all {
		word := "none"
		if o.Kind >= 0 && int(o.Kind) < len(words) {
			word = words[o.Kind]
		}
		switch o.Kind {
		case api.ONum, api.OTruth, api.OBlame, api.OFault:
			word += strconv.FormatInt(o.N, 10)
		default:
			if o.N != 0 {
				word += strconv.FormatInt(o.N, 10)
			}
		}
		if o.Kind == api.OText || o.S != "" {
			word += strconv.Quote(o.S)
		}
		list = append(list, word)
	}
	return strings.Join(list, " ")
}

// First answers the first word of what Told tells, without a number or a text; of faults with the number.
func First(told string) string {
	word := strings.Split(told, " ")[0]
	if strings.HasPrefix(word, "fault") {
		return word
	}
	return strings.TrimRight(strings.Split(word, `"`)[0], "-0123456789")
}
