package parse_test

import (
	"math"
	"strconv"
	"strings"

	"culprit/api"
	"culprit/text"
)

// writer deals sources by the grammar, and knows what must be read from them: the rows of the chapter's table of trees, and the places of what it writes.
type writer struct {
	dice
	b     strings.Builder
	loose bool  // blanks and remarks as one likes
	room  int   // for nodes
	ends  []int // of the tokens: the bytes ahead of each one's end
	parts []part
}

// part is an expression with the bytes between which it stands.
type part struct {
	nodes    []api.Node
	from, to int
}

func isInner(b byte) bool {
	return 'a' <= b && b <= 'z' || 'A' <= b && b <= 'Z' || '0' <= b && b <= '9' || b == '_'
}

// put writes a token behind what may stand between two, and answers its place.
func (w *writer) put(token string) api.Place {
	src := w.b.String()
	gap := " "
	if w.loose {
		gap = w.one("", "", " ", "\n", "\t", "\r\n", " # a remark ) ; \" $ \xff\n", "\n#\n  ")
	}
	if gap == "" && src != "" && isInner(src[len(src)-1]) && isInner(token[0]) {
		gap = "\n"
	}
	w.b.WriteString(gap + token)
	w.ends = append(w.ends, w.b.Len())
	return placed(w.b.String(), w.b.Len()-len(token))
}

func (w *writer) name() string {
	return w.one("x", "y", "f", "Z9_", "lets", "boxes", strings.Repeat("n", api.MaxName))
}

// start answers where the part begins whose first token comes next; the blanks ahead of that do no harm.
func (w *writer) start() int { return w.b.Len() }

// grown makes a part of its node and its kids, which stand in a row.
func (w *writer) grown(from int, n api.Node, kids ...part) part {
	n.Kids = len(kids)
	p := part{nodes: []api.Node{n}, from: from, to: w.b.Len()}
	for _, kid := range kids {
		p.nodes = append(p.nodes, kid.nodes...)
	}
	w.room--
	w.parts = append(w.parts, p)
	return p
}

// some tells whether to go on with something larger.
func (w *writer) some(deep, oneOf int) bool {
	return deep > 0 && w.room > 0 && w.below(oneOf) == 0
}

func (w *writer) expr(deep int) part {
	if !w.some(deep, 2) {
		return w.rank(deep)
	}
	from := w.start()
	switch w.below(5) {
	case 0:
		at := w.put("fn")
		return w.lambda(from, api.Node{Kind: api.Fn, At: at}, deep)
	case 1:
		at := w.put("rec")
		own := w.name()
		w.put(own)
		return w.lambda(from, api.Node{Kind: api.Rec, S: own + " ", At: at}, deep)
	case 2:
		n := api.Node{Kind: api.Let, At: w.put("let"), S: w.name()}
		w.put(n.S)
		n.T = w.annotation()
		w.put("=")
		bound := w.expr(deep - 1)
		w.put("in")
		body := w.expr(deep - 1)
		return w.grown(from, n, bound, body)
	case 3:
		at := w.put("if")
		condition := w.expr(deep - 1)
		w.put("then")
		yes := w.expr(deep - 1)
		w.put("else")
		no := w.expr(deep - 1)
		return w.grown(from, api.Node{Kind: api.If, At: at}, condition, yes, no)
	}
	left := w.rank(deep - 1)
	at := w.put(":=")
	right := w.expr(deep - 1)
	return w.grown(left.from, api.Node{Kind: api.Set, At: at}, left, right)
}

func (w *writer) lambda(from int, n api.Node, deep int) part {
	w.put("(")
	parameter := w.name()
	w.put(parameter)
	n.S += parameter
	n.T = w.annotation()
	w.put(")")
	n.U = w.annotation()
	w.put("=>")
	return w.grown(from, n, w.expr(deep-1))
}

func (w *writer) rank(deep int) part {
	left := w.sum(deep)
	if !w.some(deep, 5) {
		return left
	}
	mark := w.one("==", "<")
	at := w.put(mark)
	right := w.sum(deep - 1)
	return w.grown(left.from, api.Node{Kind: map[string]int8{"==": api.Eq, "<": api.Less}[mark], At: at}, left, right)
}

func (w *writer) sum(deep int) part {
	left := w.term(deep)
	for w.some(deep, 4) {
		mark := w.one("+", "-", "++")
		at := w.put(mark)
		right := w.term(deep - 1)
		left = w.grown(left.from, api.Node{Kind: map[string]int8{"+": api.Add, "-": api.Sub, "++": api.Join}[mark], At: at}, left, right)
	}
	return left
}

func (w *writer) term(deep int) part {
	left := w.factor(deep)
	for w.some(deep, 4) {
		at := w.put("*")
		right := w.factor(deep - 1)
		left = w.grown(left.from, api.Node{Kind: api.Mul, At: at}, left, right)
	}
	return left
}

func (w *writer) factor(deep int) part {
	from := w.start()
	if !w.some(deep, 4) {
		return w.call(deep)
	}
	mark := w.one("-", "!")
	at := w.put(mark)
	kid := w.factor(deep - 1)
	return w.grown(from, api.Node{Kind: map[string]int8{"-": api.Neg, "!": api.Get}[mark], At: at}, kid)
}

func (w *writer) call(deep int) part {
	called := w.atom(deep)
	for w.some(deep, 4) {
		at := w.put("(")
		argument := w.expr(deep - 1)
		w.put(")")
		called = w.grown(called.from, api.Node{Kind: api.Call, At: at}, called, argument)
	}
	return called
}

func (w *writer) atom(deep int) part {
	from := w.start()
	if !w.some(deep, 2) {
		return w.leaf(from)
	}
	switch w.below(6) {
	case 0: // brackets that leave no node
		w.put("(")
		inside := w.expr(deep - 1)
		w.put(")")
		return part{nodes: inside.nodes, from: from, to: w.b.Len()}
	case 1:
		at := w.put("(")
		left := w.expr(deep - 1)
		w.put(",")
		right := w.expr(deep - 1)
		w.put(")")
		return w.grown(from, api.Node{Kind: api.Pair, At: at}, left, right)
	case 2:
		w.put("(")
		inside := w.expr(deep - 1)
		at := w.put(":")
		t := w.typ(3)
		w.put(")")
		return w.grown(from, api.Node{Kind: api.As, T: t, At: at}, inside)
	case 3:
		at := w.put("[")
		var elements []part
		for i := range w.below(4) {
			if i > 0 {
				w.put(",")
			}
			elements = append(elements, w.expr(deep-1))
		}
		w.put("]")
		return w.grown(from, api.Node{Kind: api.List, At: at}, elements...)
	case 4:
		at := w.put("cons")
		w.put("(")
		head := w.expr(deep - 1)
		w.put(",")
		tail := w.expr(deep - 1)
		w.put(")")
		return w.grown(from, api.Node{Kind: api.Cons, At: at}, head, tail)
	}
	word := w.one("box", "size", "first", "second", "head", "tail", "empty")
	kind := map[string]int8{"box": api.Box, "size": api.Size, "first": api.First, "second": api.Second, "head": api.Head, "tail": api.Tail, "empty": api.Empty}[word]
	at := w.put(word)
	w.put("(")
	operand := w.expr(deep - 1)
	w.put(")")
	return w.grown(from, api.Node{Kind: kind, At: at}, operand)
}

func (w *writer) leaf(from int) part {
	n := []api.Node{{Kind: api.Num, N: int64(w.below(100))}, {Kind: api.Num, N: math.MaxInt64}, {Kind: api.Str, S: w.one("", "a b", "\n\"\\", "fn", "(", ";", "module")},
		{Kind: api.Truth, N: int64(w.below(2))}, {Kind: api.Var, S: w.name()}, {Kind: api.Var, S: w.name()}}[w.below(6)]
	switch n.Kind {
	case api.Num:
		n.At = w.put(strconv.FormatInt(n.N, 10))
	case api.Str:
		quoted, _ := text.Quote(n.S)
		n.At = w.put(quoted)
	case api.Truth:
		n.At = w.put([]string{"false", "true"}[n.N])
	case api.Var:
		n.At = w.put(n.S)
	}
	return w.grown(from, n)
}

func (w *writer) annotation() string {
	if w.below(2) == 0 {
		return ""
	}
	w.put(":")
	return w.typ(4)
}

// typ writes a type and answers its letters; with a deep of 4, the greatest that is asked for, at most 41.
func (w *writer) typ(deep int) string {
	from := w.arm(deep)
	if deep == 0 || w.below(3) > 0 {
		return from
	}
	w.put("->")
	return ">" + from + w.typ(deep-1)
}

func (w *writer) arm(deep int) string {
	if deep == 0 || w.below(2) == 0 {
		word := w.one("int", "bool", "text", "?")
		w.put(word)
		return word[:1]
	}
	deep = max(deep-2, 0)
	switch w.below(4) {
	case 0:
		w.put("box")
		return "x" + w.arm(deep)
	case 1:
		w.put("[")
		t := "l" + w.typ(deep)
		w.put("]")
		return t
	case 2:
		w.put("(")
		t := w.typ(deep)
		w.put(")")
		return t
	}
	w.put("(")
	t := w.typ(deep)
	w.put(",")
	t = "," + t + w.typ(deep)
	w.put(")")
	return t
}

func (w *writer) modules() []api.Module {
	var l []api.Module
	for range w.below(4) {
		l = append(l, w.module())
	}
	return l
}

func (w *writer) module() api.Module {
	w.put("module")
	m := api.Module{Name: w.name()}
	m.At = w.put(m.Name)
	w.put("{")
	for range w.below(3) {
		w.put("import")
		i := api.Import{From: w.name(), Name: w.name()}
		w.put(i.From)
		w.put(".")
		i.At = w.put(i.Name)
		i.T = w.annotation()
		w.put(";")
		m.Imports = append(m.Imports, i)
	}
	for range w.below(4) {
		d := api.Def{Name: w.name(), Export: w.below(2) == 0}
		if d.Export {
			w.put("export")
		}
		w.put("let")
		d.At = w.put(d.Name)
		d.T = w.annotation()
		w.put("=")
		d.Tree = w.expr(5).nodes
		w.put(";")
		m.Defs = append(m.Defs, d)
	}
	w.put("}")
	return m
}

// end writes what may stand behind the last token.
func (w *writer) end() string {
	if w.loose {
		w.b.WriteString(w.one("", "", " ", "\n", "# the end", "#\n\n\t"))
	}
	return w.b.String()
}
