package parse_test

import (
	"slices"
	"strconv"
	"strings"
	"testing"

	"culprit/api"
	"culprit/parse"
	"culprit/text"
	"culprit/tree"
	"culprit/types"
)

// dealt deals sources of modules.
func dealt(count int, see func(w *writer, src string, l []api.Module)) {
	for seed := range count {
		w := &writer{dice: dice(seed), loose: seed%4 > 0, room: 300}
		l := w.modules()
		see(w, w.end(), l)
	}
}

// dealtExprs deals sources of an expression, some of their trees of some size.
func dealtExprs(count, deep int, see func(w *writer, src string, l []api.Node)) {
	for seed := range count {
		w := &writer{dice: dice(seed), loose: seed%4 > 0, room: 200}
		l := w.expr(1 + seed%deep).nodes
		see(w, w.end(), l)
	}
}

// The tables of trees and of places: what is written is read as it was meant.
func TestModulesAreReadAsWritten(t *testing.T) {
	kinds, longest, most := map[int8]int{}, 0, 0
	dealt(2000, func(w *writer, src string, l []api.Module) {
		wantModules(t, src, l...)
		most = max(most, len(l))
		for _, m := range l {
			for _, d := range m.Defs {
				longest = max(longest, len(d.Tree))
				for _, n := range d.Tree {
					kinds[n.Kind]++
				}
			}
		}
	})
	for kind := range int8(29) {
		if kinds[kind+1] < 100 {
			t.Errorf("too few of the kind %d were dealt: %v", kind+1, kinds)
		}
	}
	if longest < 100 || most < 3 {
		t.Errorf("too little was dealt: %d nodes, %d modules", longest, most)
	}
}

func TestExprsAreReadAsWritten(t *testing.T) {
	dealtExprs(4000, 7, func(w *writer, src string, l []api.Node) {
		wantExpr(t, src, l...)
	})
}

func TestTypesAreReadAsWritten(t *testing.T) {
	long := 0
	for seed := range 6000 {
		w := &writer{dice: dice(seed), loose: seed%2 == 0}
		letters := w.typ(1 + seed%4)
		wantType(t, w.end(), letters)
		long = max(long, len(letters))
	}
	if long < 20 {
		t.Errorf("only types of at most %d letters were dealt", long)
	}
}

// What follows: each tree that is answered may be, as each type; names are names.
func TestWhatIsAnsweredMayBe(t *testing.T) {
	dealt(1000, func(w *writer, src string, _ []api.Module) {
		l, _, _ := parse.Modules([]byte(src))
		if e := tree.Modules(l); e != api.OK {
			t.Errorf("what follows: the modules of %s: %d", shown(src), e)
		}
	})
	dealtExprs(2000, 7, func(w *writer, src string, _ []api.Node) {
		l, _, _ := parse.Expr([]byte(src))
		if e, i := tree.Check(l); e != api.OK {
			t.Errorf("what follows: the tree of %s: %d at %d", shown(src), e, i)
		}
	})
	for seed := range 2000 {
		w := &writer{dice: dice(seed)}
		w.typ(4)
		s, _, _ := parse.Type([]byte(w.end()))
		if e, i := types.Check(s); e != api.OK {
			t.Errorf("what follows: the type of %s: %s: %d at %d", w.end(), s, e, i)
		}
	}
}

// respelt writes the tokens of a source with other blanks and remarks between them.
func respelt(t *testing.T, d *dice, src string) string {
	t.Helper()
	l, e, _ := text.Tokens([]byte(src))
	if e != api.OK {
		t.Fatalf("P1.1: %s: %d", shown(src), e)
	}
	w := &writer{dice: *d, loose: true}
	for _, x := range l {
		switch x.Kind {
		case text.Number:
			w.put(strconv.FormatInt(x.N, 10))
		case text.Text:
			q, _ := text.Quote(x.S)
			w.put(q)
		default:
			w.put(x.S)
		}
	}
	*d = w.dice
	return w.end()
}

// What follows: blanks and remarks between tokens change places alone.
func TestBlanksChangePlacesAlone(t *testing.T) {
	var d dice = 9
	dealt(1000, func(w *writer, src string, l []api.Module) {
		again := respelt(t, &d, src)
		got, e, _ := parse.Modules([]byte(again))
		if e != api.OK || !slices.EqualFunc(withoutPlaces(got), withoutPlaces(l), sameModule) {
			t.Errorf("what follows: %q is read otherwise than %q: %s, %d", again, src, shown(got), e)
		}
	})
	dealtExprs(1000, 6, func(w *writer, src string, l []api.Node) {
		again := respelt(t, &d, src)
		got, e, _ := parse.Expr([]byte(again))
		if e != api.OK || !tree.Equal(got, l) {
			t.Errorf("what follows: %q is read otherwise than %q: %s, %d", again, src, shown(got), e)
		}
	})
	for seed := range 1000 {
		w := &writer{dice: dice(seed)}
		letters := w.typ(4)
		wantType(t, respelt(t, &d, w.end()), letters)
	}
}

// What follows: brackets around an expr change places alone, wherever an atom may stand for it: around each part of a tree, and around the whole.
func TestBracketsChangePlacesAlone(t *testing.T) {
	tried := 0
	dealtExprs(600, 6, func(w *writer, src string, l []api.Node) {
		for _, p := range w.parts {
			again := src[:p.from] + " (" + src[p.from:p.to] + "\n)" + src[p.to:]
			got, e, _ := parse.Expr([]byte(again))
			if e != api.OK || !tree.Equal(got, l) {
				t.Fatalf("what follows: %q is read otherwise than %q: %s, %d", again, src, told(got), e)
			}
			if alone, e, _ := parse.Expr([]byte(src[p.from:p.to])); e != api.OK || !tree.Equal(alone, p.nodes) {
				t.Fatalf("what follows: %q is read by itself as %s, %d", src[p.from:p.to], told(alone), e)
			}
			tried++
		}
	})
	if tried < 4000 {
		t.Errorf("only %d parts were dealt", tried)
	}
	// Brackets around no expr by itself are others.
	for src, other := range map[string]string{"1 - 2 - 3": "1 - (2 - 3)", "1 + 2 * 3": "(1 + 2) * 3", "-f(x)": "(-f)(x)", "!x := 1": "!(x := 1)"} {
		a, _, _ := parse.Expr([]byte(src))
		b, e, _ := parse.Expr([]byte(other))
		if e != api.OK || tree.Equal(a, b) {
			t.Errorf("%q and %q are read as %s", src, other, told(b))
		}
	}
}

// What follows: a cut source answers its modules, or ErrParse at its end.
func TestCutSources(t *testing.T) {
	dealt(60, func(w *writer, src string, l []api.Module) {
		for _, end := range append([]int{0}, w.ends...) {
			cut := src[:end]
			got, e, place := parse.Modules([]byte(cut))
			whole := e == api.OK && place == api.Place{} && len(got) <= len(l) && slices.EqualFunc(got, l[:len(got)], sameModule)
			early := e == api.ErrParse && place == placed(cut, len(cut)) && len(got) == 0
			if complete := modulesOver(cut); complete && !whole || !complete && !early {
				t.Errorf("what follows: the cut source %q: %s, %d at %v", cut, shown(got), e, place)
			}
		}
	})
	for _, f := range faces()[1:] {
		for seed := range 200 {
			w := &writer{dice: dice(seed), loose: seed%2 == 0, room: 100}
			if f.name == "Expr" {
				w.expr(4)
			} else {
				w.typ(4)
			}
			for _, end := range append([]int{0}, w.ends...) {
				cut := w.b.String()[:end]
				if answer, e, place := f.call(cut); e == api.OK && answer == 0 || e != api.OK && (e != api.ErrParse || place != placed(cut, end) || answer != 0) {
					t.Errorf("what follows: the cut source %q: %d, %d at %v", cut, answer, e, place)
				}
			}
		}
	}
}

// modulesOver tells of the beginning of a source whether all modules in it are complete: outside of them no token stands.
func modulesOver(src string) bool {
	l, _, _ := text.Tokens([]byte(src))
	open := 0
	for _, x := range l {
		switch {
		case x.Kind == text.Word && x.S == "module":
			open++
		case x.Kind == text.Mark && x.S == "}":
			open--
		}
	}
	return open == 0
}

// spoilt changes a list of tokens, by taking some out, laying some in, or another one instead.
func (d *dice) spoilt(l []string) []string {
	i := d.below(len(l) + 1)
	end := min(len(l), i+d.below(3))
	some := slices.Repeat(allTokens()[d.below(3):], 2)[d.below(40):][:d.below(3)]
	return slices.Concat(l[:i], some, l[end:])
}

// spelt answers the tokens of a source as the grammar spells them.
func spelt(src string) []string {
	l, _, _ := text.Tokens([]byte(src))
	var all []string
	for _, x := range l {
		all = append(all, map[int8]string{text.Name: "name", text.Number: "number", text.Text: "text", text.Word: `"` + x.S + `"`, text.Mark: `"` + x.S + `"`}[x.Kind])
	}
	return all
}

// P6.1, P6.2: long sources with a fault in them, held against the grammar.
func TestSpoiltSources(t *testing.T) {
	g := theGrammar()
	var d dice = 3
	taken := 0
	for _, f := range faces() {
		for seed := range 3000 {
			w := &writer{dice: dice(seed), room: 60}
			switch f.name {
			case "Modules":
				w.modules()
			case "Expr":
				w.expr(4)
			default:
				w.typ(4)
			}
			l := d.spoilt(spelt(w.end()))
			here, i := g.begin(f.row), 0
			for ; i < len(l); i++ {
				next := g.behind(here, l[i])
				if len(next) == 0 {
					break
				}
				here = next
			}
			src := written(l...)
			switch {
			case i < len(l) || !slices.Contains(here, nil):
				f.wantRefused(t, src, api.ErrParse, at(1, len(written(l[:i]...))+1+min(1, i, len(l)-i)))
			default:
				f.wantTaken(t, src)
				taken++
			}
		}
	}
	if taken < 500 || taken > 4000 {
		t.Errorf("of 9000 spoilt sources %d were taken", taken)
	}
}

// R1, R2: whatever bytes a call is given, it ends, with an answer or with a fault alone.
func TestAnyBytes(t *testing.T) {
	var d dice = 5
	pieces := append(strings.Fields(strings.ReplaceAll(strings.Join(allTokens(), " "), `"`, "")), `"`, `"a"`, "#", "\n", "\x00", "\xff", "$", "00", "9223372036854775808", strings.Repeat("k", 33), " ", " ", " ")
	for range 20000 {
		var b strings.Builder
		for range d.below(12) {
			b.WriteString(d.one(pieces...))
			b.WriteString(d.one("", " "))
		}
		src := b.String()
		_, fault, place := text.Tokens([]byte(src))
		for _, f := range faces() {
			answer, e, p := f.call(src)
			switch {
			case fault != api.OK && (e != fault || p != place || answer != 0):
				t.Errorf("P6.1: %s(%q): %d, %d at %v; want chapter 1's fault %d at %v", f.name, src, answer, e, p, fault, place)
			case fault == api.OK && e == api.OK && p != api.Place{}, fault == api.OK && e != api.OK && (e != api.ErrParse || answer != 0):
				t.Errorf("R2: %s(%q): %d, %d at %v", f.name, src, answer, e, p)
			}
		}
	}
}
