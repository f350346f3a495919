package print_test

import (
	"slices"
	"strings"
	"testing"

	"culprit/api"
	"culprit/parse"
	tested "culprit/print"
	"culprit/text"
	"culprit/tree"
)

// wantBack: what is written of a tree is read as it, and written again is the same text; it answers that text.
func wantBack(t *testing.T, l []api.Node) string {
	t.Helper()
	src, e := tested.Expr(l)
	read, fault, place := parse.Expr([]byte(src))
	if e != api.OK || fault != api.OK || !tree.Equal(read, l) {
		t.Fatalf("there and back: %s is written as %q, %d, and read as %s, %d at %v", shown(l), src, e, shown(read), fault, place)
	}
	if again, e := tested.Expr(read); again != src || e != api.OK {
		t.Fatalf("there and back: %q is read and written as %q, %d", src, again, e)
	}
	return src
}

// brackets answers where the round brackets of an expression stand that are no part of a literal. What is written has one line.
func brackets(t *testing.T, src string) []int {
	t.Helper()
	l, e, _ := text.Tokens([]byte(src))
	if e != api.OK {
		t.Fatalf("P1.1: %q: %d", src, e)
	}
	var at []int
	for _, x := range l {
		if x.Kind == text.Mark && (x.S == "(" || x.S == ")") {
			at = append(at, x.At.Col-1)
		}
	}
	return at
}

// without takes some bytes out of a text.
func without(src string, at []int) string {
	left := []byte(src)
	for _, i := range slices.Backward(at) {
		left = slices.Delete(left, i, i+1)
	}
	return string(left)
}

func wantOther(t *testing.T, src, fewer string, l []api.Node) {
	t.Helper()
	if read, e, _ := parse.Expr([]byte(fewer)); e == api.OK && tree.Equal(read, l) {
		t.Fatalf("brackets that are not needed: %q is read as %q is", fewer, src)
	}
}

// wantFew: no text with fewer brackets is read as this tree, whichever of them are taken away.
func wantFew(t *testing.T, l []api.Node, src string) {
	t.Helper()
	at := brackets(t, src)
	for some := 1; some < 1<<len(at); some++ {
		var gone []int
		for i, place := range at {
			if some>>i&1 == 1 {
				gone = append(gone, place)
			}
		}
		wantOther(t, src, without(src, gone), l)
	}
}

// wantPairs: each pair of brackets is needed; it answers how many there are.
func wantPairs(t *testing.T, l []api.Node, src string) int {
	t.Helper()
	var open []int
	pairs := 0
	for _, at := range brackets(t, src) {
		if src[at] == '(' {
			open = append(open, at)
			continue
		}
		last := len(open) - 1
		wantOther(t, src, without(src, []int{open[last], at}), l)
		open = open[:last]
		pairs++
	}
	return pairs
}

// oneOfEach: a node of each kind that has kids, Lists of none, one and two, annotations of some kinds.
func oneOfEach(leaves ...string) []api.Node {
	l := of(strings.Join(leaves, " "))
	return append(l, of("Fn(x) Fn(x|>ii|i) Rec(g/x) Let(x) Let(y|x>ii) If Set Eq Less Add Sub Join Mul Neg Get Call Pair As(>i>ii) As(i) List(0) List(1) List(2) Box Size First Second Head Tail Empty Cons")...)
}

// Every tree of few nodes: by the table, there and back, with no bracket that is not needed.
func TestEveryShortTree(t *testing.T) {
	t.Parallel()
	rows, tried := theTable(), 0
	visit := func(l []api.Node) {
		wantExpr(t, l, rows.write(l, never))
		src := wantBack(t, l)
		if len(brackets(t, src)) <= 6 {
			wantFew(t, l, src)
		}
		wantPairs(t, l, src)
		tried++
	}
	for nodes := 1; nodes <= 3; nodes++ {
		eachTree(oneOfEach("a", "1", "true", `"("`), nodes, visit)
	}
	eachTree(oneOfEach("a"), 4, visit)
	if tried < 10000 {
		t.Errorf("only %d trees were tried", tried)
	}
}

// One of each rank, nested deeper.
func TestEveryRankInEveryRank(t *testing.T) {
	t.Parallel()
	rows := theTable()
	some := of("a Fn(x) If Set Less Sub Mul Neg Call Pair")
	tried := 0
	for nodes := 1; nodes <= 7; nodes++ {
		eachTree(some, nodes, func(l []api.Node) {
			wantExpr(t, l, rows.write(l, never))
			wantPairs(t, l, wantBack(t, l))
			tried++
		})
	}
	if tried < 5000 {
		t.Errorf("only %d trees were tried", tried)
	}
}

func TestManyTrees(t *testing.T) {
	t.Parallel()
	var d dice = 7
	rows := theTable()
	seen, pairs, longest := map[int8]int{}, 0, 0
	for range 1000 {
		l := d.grown(1+d.below(120), 2+d.below(api.MaxNest-1))
		if e, at := tree.Check(l); e != api.OK {
			t.Fatalf("the tests deal a list that is none: %s, %d at %d", shown(l), e, at)
		}
		wantExpr(t, l, rows.write(l, never))
		pairs += wantPairs(t, l, wantBack(t, l))
		longest = max(longest, len(l))
		for _, n := range l {
			seen[n.Kind]++
		}
	}
	if len(seen) != len(kindNames()) || pairs < 10000 || longest < 100 {
		t.Errorf("too few trees were dealt: %v, %d, %d", seen, pairs, longest)
	}
}

// However a source is written, with more brackets and other blanks: its tree is written in one way, which is read as the same.
func TestOneWay(t *testing.T) {
	t.Parallel()
	var d dice = 5
	rows := theTable()
	others := 0
	for range 3000 {
		l := d.grown(1+d.below(60), 12)
		src := rows.write(l, func() bool { return d.below(3) == 0 })
		read, e, place := parse.Expr([]byte(src))
		if e != api.OK || !tree.Equal(read, l) {
			t.Fatalf("the tests write %s as %q, which is read as %s, %d at %v", shown(l), src, shown(read), e, place)
		}
		wantExpr(t, read, rows.write(l, never))
		if wantBack(t, read) != src {
			others++
		}
	}
	if others < 2000 {
		t.Errorf("only %d sources were written otherwise", others)
	}
}

func sameModule(a, b api.Module) bool {
	return a.Name == b.Name && slices.EqualFunc(a.Imports, b.Imports, sameImport) && slices.EqualFunc(a.Defs, b.Defs, sameDef)
}

func sameImport(a, b api.Import) bool {
	return a.From == b.From && a.Name == b.Name && a.T == b.T
}

func sameDef(a, b api.Def) bool {
	return a.Name == b.Name && a.Export == b.Export && a.T == b.T && tree.Equal(a.Tree, b.Tree)
}

// wantModulesBack: what is written of modules is read as just these, and written again is the same text; it answers that text.
func wantModulesBack(t *testing.T, l []api.Module) string {
	t.Helper()
	src, e := tested.Modules(l)
	read, fault, place := parse.Modules([]byte(src))
	if e != api.OK || fault != api.OK || !slices.EqualFunc(read, l, sameModule) {
		t.Fatalf("there and back: %s is written as %q, %d, and read as %s, %d at %v", shown(l), shown(src), e, shown(read), fault, place)
	}
	if again, e := tested.Modules(read); again != src || e != api.OK {
		t.Fatalf("there and back: %q is read and written as %q, %d", shown(src), shown(again), e)
	}
	return src
}

func TestManyModules(t *testing.T) {
	var d dice = 3
	none, bare := 0, 0
	for range 1500 {
		l := d.modules()
		src := wantModulesBack(t, l)
		var lines []string
		for _, m := range l {
			lines = append(lines, linesOf(m)...)
			if len(m.Imports)+len(m.Defs) == 0 {
				bare++
			}
		}
		wantModules(t, l, lines...)
		if src == "" {
			none++
		}
	}
	if none < 50 || bare < 50 {
		t.Errorf("too few modules were dealt: %d, %d", none, bare)
	}
}
