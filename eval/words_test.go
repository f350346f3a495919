package eval_test

import (
	"fmt"
	"slices"
	"strconv"
	"strings"
	"testing"

	"culprit/api"
	"culprit/eval"
)

// kindNames: the kinds by name, from 1 on.
func kindNames() []string {
	return strings.Fields("Num Str Truth Var Fn Rec Call Let If Add Sub Mul Join Eq Less Neg Size Pair First Second List Head Tail Empty Cons Box Get Set As Cast")
}

func kindOf(name string) int8 { return int8(slices.Index(kindNames(), name) + 1) }

// namedFields: of each kind the fields that count beside Kind and Kids, in the order in which the tests write them.
func namedFields(kind int8) string {
	switch kind {
	case api.Num, api.Truth, api.Var:
		return "N"
	case api.Str:
		return "S"
	case api.Fn, api.Rec:
		return "TU"
	case api.List:
		return "T"
	case api.Cast:
		return "TUN"
	}
	return ""
}

// reader reads terms as the chapter writes them: kind, its named fields, its kids in brackets. A _ stands for an empty text.
type reader struct {
	words []string
}

// term reads a term. Kids is what stands in the brackets, however many the table asks for.
func term(written string) []api.Node {
	apart := strings.NewReplacer("(", " ( ", ")", " ) ").Replace(written)
	r := reader{strings.Fields(apart)}
	l := r.part()
	if len(r.words) > 0 {
		panic("the tests' own term has too many words: " + written)
	}
	return l
}

func (r *reader) take() string {
	word := r.words[0]
	r.words = r.words[1:]
	if len(word) > 1 { // a type ends with no comma
		word = strings.TrimSuffix(word, ",")
	}
	return word
}

func (r *reader) part() []api.Node {
	n := api.Node{Kind: kindOf(r.take())}
	if n.Kind == 0 {
		panic("the tests' own term has a word that is no kind")
	}
	for _, field := range namedFields(n.Kind) {
		switch word := strings.Trim(r.take(), "_"); field {
		case 'N':
			n.N, _ = strconv.ParseInt(word, 10, 64)
		case 'S':
			n.S = word
		case 'T':
			n.T = word
		case 'U':
			n.U = word
		}
	}
	if len(r.words) == 0 || r.words[0] != "(" {
		return []api.Node{n}
	}
	var kids [][]api.Node
	for r.take(); r.words[0] != ")"; {
		if r.words[0] == "," {
			r.take()
			continue
		}
		kids = append(kids, r.part())
	}
	r.take()
	return node(n, kids...)
}

// node: a node, and the parts of its kids.
func node(n api.Node, kids ...[]api.Node) []api.Node {
	n.Kids = len(kids)
	return append([]api.Node{n}, slices.Concat(kids...)...)
}

func of(kind int8, kids ...[]api.Node) []api.Node { return node(api.Node{Kind: kind}, kids...) }

func num(n int64) []api.Node { return []api.Node{{Kind: api.Num, N: n}} }

func str(s string) []api.Node { return []api.Node{{Kind: api.Str, S: s}} }

func truth(n int64) []api.Node { return []api.Node{{Kind: api.Truth, N: n}} }

func name(distance int64) []api.Node { return []api.Node{{Kind: api.Var, N: distance}} }

func fn(t, u string, body []api.Node) []api.Node {
	return node(api.Node{Kind: api.Fn, T: t, U: u}, body)
}

func rec(t, u string, body []api.Node) []api.Node {
	return node(api.Node{Kind: api.Rec, T: t, U: u}, body)
}

func list(t string, kids ...[]api.Node) []api.Node {
	return node(api.Node{Kind: api.List, T: t}, kids...)
}

func cast(from, to string, label int64, kid []api.Node) []api.Node {
	return node(api.Node{Kind: api.Cast, T: from, U: to, N: label}, kid)
}

// nested: so many nodes of one kind, one in the other, around a term.
func nested(n api.Node, times int, l []api.Node) []api.Node {
	n.Kids = 1
	return slices.Concat(slices.Repeat([]api.Node{n}, times), l)
}

// cut takes the type apart at which a text begins.
func cut(t string) (one, rest string) {
	end := 1
	for range strings.Count("lx", t[:1]) + 2*strings.Count(">,", t[:1]) {
		part, _ := cut(t[end:])
		end += len(part)
	}
	return t[:end], t[end:]
}

// witness: a closed term of a type, without a cast where nothing of it is unknown.
func witness(t string) []api.Node {
	var first, second string
	if len(t) > 1 {
		first, second = cut(t[1:])
	}
	switch t[0] {
	case 'i':
		return num(7)
	case 'b':
		return truth(1)
	case 't':
		return str("a")
	case '?':
		return cast("i", "?", 9, num(7))
	case '>':
		return fn(first, second, witness(second))
	case ',':
		return of(api.Pair, witness(first), witness(second))
	case 'l':
		return list(first)
	}
	return of(api.Box, witness(first))
}

// shown writes a value so that a line of a test's report stays short.
func shown(v any) string {
	s := fmt.Sprintf("%+v", v)
	if len(s) > 700 {
		return s[:700] + " .."
	}
	return s
}

// written tells a term as term reads it.
func written(l []api.Node) string {
	all := ""
	var part func(at int) int
	part = func(at int) int {
		if at >= len(l) {
			return at
		}
		n := l[at]
		if n.Kind < 1 || int(n.Kind) > len(kindNames()) {
			all += strconv.Itoa(int(n.Kind))
		} else {
			all += kindNames()[n.Kind-1]
		}
		for _, field := range namedFields(n.Kind) {
			all += " " + map[rune]string{'N': strconv.FormatInt(n.N, 10), 'S': n.S, 'T': n.T, 'U': n.U}[field]
		}
		if n.Kids == 0 || len(all) > 700 {
			return at + 1
		}
		end := at + 1
		for i := range n.Kids {
			all += [2]string{"(", ", "}[min(i, 1)]
			end = part(end)
		}
		all += ")"
		return end
	}
	part(0)
	return shown(all)
}

// told writes an observation as words, one a node. A field that has no meaning there, and is not zero, is told as well.
func told(all []api.Obs) string {
	words := map[int8]string{api.ONum: "num", api.OText: "text", api.OTruth: "truth", api.OFun: "fun", api.OBox: "box", api.OPair: "pair", api.OEmpty: "empty", api.OCons: "cons", api.OBlame: "blame", api.OFault: "fault", api.OFuel: "fuel", api.ODeep: "deep"}
	var list []string
	for _, o := range all {
		word := words[o.Kind]
		if slices.Contains([]int8{api.ONum, api.OTruth, api.OBlame, api.OFault}, o.Kind) || o.N != 0 {
			word += strconv.FormatInt(o.N, 10)
		}
		if o.Kind == api.OText || o.S != "" {
			word += strconv.Quote(o.S)
		}
		list = append(list, word)
	}
	return strings.Join(list, " ")
}

// outcome: what a call answers: what is seen, in words; the steps; the error, the node.
type outcome struct {
	seen  string
	steps int
	e     api.Errno
	node  int
}

func outcomeOf(r api.Result, e api.Errno, node int) outcome {
	o := outcome{told(r.Seen), r.Steps, e, node}
	if r.Frames != 0 || r.Casts != 0 {
		o.seen += " with frames or casts"
	}
	return o
}

func ran(l []api.Node, fuel, depth int) outcome {
	r, e := eval.Run(l, fuel, depth)
	return outcomeOf(r, e, 0)
}

func ranLoose(l []api.Node, fuel, depth int) outcome {
	return outcomeOf(eval.Loose(l, fuel, depth))
}

func want(t *testing.T, what string, l []api.Node, got, want outcome) {
	t.Helper()
	if got != want {
		t.Errorf("%s: %s: %s; want %s", what, written(l), shown(got), shown(want))
	}
}

// fuels: those to be tried of a run of so many steps: as many as there are, or some; and none that is no fuel.
func fuels(steps int) (less, enough []int) {
	for fuel := range steps {
		if fuel < 40 || fuel > steps-3 {
			less = append(less, fuel)
		}
	}
	for _, fuel := range []int{steps, steps + 1, steps + 7, api.MaxFuel} {
		if fuel <= api.MaxFuel {
			enough = append(enough, fuel)
		}
	}
	return less, enough
}

// wantLoose: what Loose answers with each fuel, with this depth.
func wantLoose(t *testing.T, l []api.Node, depth int, w outcome) {
	t.Helper()
	less, enough := fuels(w.steps)
	for _, fuel := range less {
		want(t, fmt.Sprintf("P16.2: fuel %d", fuel), l, ranLoose(l, fuel, depth), outcome{seen: "fuel", steps: fuel})
	}
	for _, fuel := range enough {
		want(t, fmt.Sprintf("P16.2: fuel %d", fuel), l, ranLoose(l, fuel, depth), w)
	}
}

// wantRun: what both calls answer, with each fuel.
func wantRun(t *testing.T, l []api.Node, depth int, seen string, steps int) {
	t.Helper()
	w := outcome{seen: seen, steps: steps}
	wantLoose(t, l, depth, w)
	less, enough := fuels(steps)
	for _, fuel := range less {
		want(t, fmt.Sprintf("P16.1: fuel %d", fuel), l, ran(l, fuel, depth), outcome{seen: "fuel", steps: fuel})
	}
	for _, fuel := range enough {
		want(t, fmt.Sprintf("P16.1: fuel %d", fuel), l, ran(l, fuel, depth), w)
	}
}

// gives: a term that checks, what is seen of its run, its steps.
func gives(t *testing.T, text, seen string, steps int) {
	t.Helper()
	wantRun(t, term(text), 9, seen, steps)
}

// givesLoose: the same of a term that does not check.
func givesLoose(t *testing.T, text, seen string, steps int) {
	t.Helper()
	wantLoose(t, term(text), 9, outcome{seen: seen, steps: steps})
	doesNotCheck(t, text)
}

// isStuck: a term that does not check, the node at which its run is stuck, its steps.
func isStuck(t *testing.T, text string, node, steps int) {
	t.Helper()
	wantLoose(t, term(text), 9, outcome{seen: "fault32", steps: steps, node: node})
	doesNotCheck(t, text)
}

func doesNotCheck(t *testing.T, text string) {
	t.Helper()
	if got := ran(term(text), api.MaxFuel, 9); got.e == api.OK || got != (outcome{e: got.e}) {
		t.Errorf("P16.1: %s: %s; want an error, and nothing beside it", text, shown(got))
	}
}
