package flow_test

import (
	"strings"
	"testing"

	"culprit/api"
	"culprit/core"
	"culprit/module"
	"culprit/parse"
	"culprit/relate"
	"culprit/sample"
)

// W3, over all short terms.
func TestEveryShortTerm(t *testing.T) {
	checked := 0
	for nodes := 1; nodes <= 4; nodes++ {
		sample.EachTree(sample.SomeNodes(), nodes, func(l []api.Node) {
			if wantAgreed(t, l, 20, 4).e == api.OK {
				checked++
			}
		})
	}
	if checked < 900 {
		t.Errorf("too few terms that check: %d", checked)
	}
}

// W3, over all terms of a few kinds, so long that what was cast once is cast again, called, taken apart, got and set.
func TestEveryTermOfSomeKinds(t *testing.T) {
	cast := func(from, to string, label int64) api.Node {
		return api.Node{Kind: api.Cast, Kids: 1, T: from, U: to, N: label}
	}
	one, two := func(kind int8) api.Node { return api.Node{Kind: kind, Kids: 1} }, func(kind int8) api.Node { return api.Node{Kind: kind, Kids: 2} }
	for _, c := range []struct {
		leaves string
		kinds  []api.Node
		most   int
	}{
		{"Num 1; Truth 1", []api.Node{two(api.Pair), one(api.First), one(api.Second), cast(",ib", ",??", 1), cast(",??", ",ii", 2), cast(",ii", ",??", 3), cast(",??", ",bb", 4), cast(",??", "?", 5), cast("?", ",ii", 6)}, 9},
		{"Num 1; Truth 1; Fn i i (Var 0); Fn i ? (Cast i ? 9 (Var 0))", []api.Node{two(api.Call), cast(">ii", ">??", 1), cast(">??", ">bi", 2), cast(">bi", ">?i", 3), cast(">?i", ">ii", 4), cast(">i?", ">ii", 5), cast(">??", ">ib", 6), cast("i", "?", 7), cast("b", "?", 8), cast(">??", "?", 10), cast("?", ">ii", 11), cast("?", ">bb", 12)}, 12},
		{"Num 1; Truth 1", []api.Node{one(api.Box), one(api.Get), two(api.Set), cast("xi", "x?", 1), cast("x?", "xb", 2), cast("xb", "?", 3), cast("?", "xi", 4), cast("xi", "xi", 5), cast("i", "?", 6), cast("b", "?", 7)}, 9},
		{"Num 1; List i (Num 1, Num 2); List i ()", []api.Node{one(api.Head), one(api.Tail), two(api.Cons), cast("li", "?", 1), cast("?", "lb", 2), cast("lb", "l?", 3), cast("l?", "li", 4), cast("i", "?", 5), cast("?", "i", 6)}, 9},
	} {
		counts, all := map[string]int{}, 0
		eachThatChecks(strings.Split(c.leaves, "; "), c.kinds, c.most, func(l []api.Node) {
			all++
			counts[sample.First(wantAgreed(t, l, 12, 4).seen)]++
		})
		t.Log(all, counts)
		if all < 3000 || counts["blame"] < 100 || len(counts) < 3 {
			t.Errorf("too few kinds of runs: %v", counts)
		}
	}
}

// eachThatChecks visits the terms that check and are put together of so many pieces: leaves, and nodes with one kid or two.
func eachThatChecks(leaves []string, kinds []api.Node, most int, visit func(l []api.Node)) {
	made := make([][][]api.Node, most+1)
	try := func(pieces int, l []api.Node) {
		if _, e, _ := core.Check(l); e == api.OK {
			made[pieces] = append(made[pieces], l)
			visit(l)
		}
	}
	for _, leaf := range leaves {
		try(1, sample.Term(leaf))
	}
	for pieces := 2; pieces <= most; pieces++ {
		for _, n := range kinds {
			for first := 1; first < pieces; first++ {
				if n.Kids == 1 && first < pieces-1 {
					continue
				}
				for _, l := range made[first] {
					if n.Kids == 1 {
						try(pieces, sample.Node(n, l))
						continue
					}
					for _, other := range made[pieces-1-first] {
						try(pieces, sample.Node(n, l, other))
					}
				}
			}
		}
	}
}

// W3, over many dealt terms, with fuel for the whole run and with less, seen to any depth.
func TestDealtTerms(t *testing.T) {
	g := sample.Maker{Dice: 41}
	counts, casts := map[string]int{}, 0
	for range 30000 {
		l := g.Deal()
		o := wantAgreed(t, l, 150, 6)
		if o.e != api.OK {
			t.Fatalf("the tests' own maker made what does not check: %s", sample.Written(l))
		}
		counts[sample.First(o.seen)]++
		if strings.Contains(o.seen, " blame") {
			counts["part"]++
		}
		wantAgreed(t, l, g.Below(o.steps+1), g.Below(9))
		for _, n := range l {
			if n.Kind == api.Cast {
				casts++
			}
		}
	}
	t.Log(counts, casts)
	for _, seen := range strings.Fields("num text truth fun box pair empty cons blame fault34 fuel part") {
		if counts[seen] < 40 || casts < 100000 {
			t.Errorf("too few kinds of runs were dealt: %v, %d casts", counts, casts)
		}
	}
}

// W3, where one value goes over many borders, and is used then.
func TestDealtBorders(t *testing.T) {
	g := sample.Maker{Dice: 42}
	counts := map[string]int{}
	for range 30000 {
		from := g.Typ(6)
		l, to := overBorders(&g, g.Part(from, nil, 1), from, 1+g.Below(8))
		l = sample.Of(api.Let, l, uses(&g, to, from, 3).l)
		o := wantAgreed(t, l, 300, 6)
		if o.e != api.OK {
			t.Fatalf("the tests' own maker made what does not check: %d: %s", o.e, sample.Written(l))
		}
		counts[sample.First(o.seen)]++
	}
	t.Log(counts)
	if counts["blame"] < 3000 || counts["pair"] < 1000 || counts["num"] < 1000 {
		t.Errorf("too few kinds of runs were dealt: %v", counts)
	}
}

// overBorders: a term of a type, cast so often, by the way of other types, most of which its value has; and its type then.
func overBorders(g *sample.Maker, l []api.Node, had string, times int) ([]api.Node, string) {
	from := had
	for range times {
		to := g.Near(had)
		if g.Below(16) == 0 || !relate.Consistent(from, to) {
			to = g.Near(from)
		}
		l, from = sample.Cast(from, to, g.Label(), l), to
	}
	return l, from
}

// found: a term of that type.
type found struct {
	l []api.Node
	t string
}

// uses: what is found where the value of the nearest binder, which has that type, and had another one ahead of all casts, is taken apart so deep: called, looked at, set.
func uses(g *sample.Maker, t, had string, deep int) found {
	it := sample.Var(0)
	if deep == 0 {
		return found{it, t}
	}
	one, two := partsOf(t)
	hadOne, hadTwo := "?", "?"
	if had[0] == t[0] {
		hadOne, hadTwo = partsOf(had)
	}
	argument := func() []api.Node { return g.Part(one, []string{t}, 1) }
	switch t[0] {
	case '>':
		return behind(g, deep, sample.Of(api.Call, it, argument()), two, hadTwo)
	case ',':
		return together(g, behind(g, deep, sample.Of(api.First, it), one, hadOne), behind(g, deep, sample.Of(api.Second, it), two, hadTwo))
	case 'l':
		return together(g, behind(g, deep, sample.Of(api.Head, it), one, hadOne), behind(g, deep, sample.Of(api.Tail, it), t, had))
	case 'x':
		got := behind(g, deep, sample.Of(api.Get, it), one, hadOne)
		if g.Coin() {
			got.l = sample.Of(api.Let, it, sample.Of(api.Let, sample.Of(api.Set, it, argument()), sample.Of(api.Let, sample.Var(1), got.l)))
		}
		return got
	case '?':
		u := g.Typ(4)
		if g.Below(8) > 0 {
			u = g.Near(had)
		}
		return behind(g, deep, sample.Cast("?", u, g.Label(), it), u, had)
	}
	return found{it, t}
}

// behind: what is found where a term's value is taken apart.
func behind(g *sample.Maker, deep int, l []api.Node, t, had string) found {
	inner := uses(g, t, had, deep-1)
	return found{sample.Of(api.Let, l, inner.l), inner.t}
}

// together: both that were found, the one behind the other; or one of them, where their type would be too long.
func together(g *sample.Maker, one, two found) found {
	if len(one.t)+len(two.t) > 40 || g.Below(4) == 0 {
		return []found{one, two}[g.Below(2)]
	}
	return found{sample.Of(api.Pair, one.l, two.l), "," + one.t + two.t}
}

func partsOf(t string) (one, two string) {
	if len(t) > 1 {
		one, two = sample.Cut(t[1:])
	}
	return one, two
}

// A run that ends within its fuel ends alike with more; with less than its steps it is out of fuel.
func TestFuelOfDealtTerms(t *testing.T) {
	g := sample.Maker{Dice: 43}
	endless := 0
	for range 2000 {
		l := g.Deal()
		o := ran(l, 100, 5)
		k := sample.Known{Term: l, Depth: 5, Seen: o.seen, Steps: o.steps}
		if o.seen == "fuel" {
			endless++
			wantKnown(t, k, 0, 1, 50, 99)
			continue
		}
		wantKnown(t, k, someFuels(o.steps)...)
	}
	if endless < 5 {
		t.Errorf("too few runs without an end: %d", endless)
	}
}

// W3, of programs: modules with borders between them, and annotations that know more or less.
func TestDealtPrograms(t *testing.T) {
	var d sample.Dice = 44
	counts := map[string]int{}
	for range 4000 {
		modules, e, _ := parse.Modules([]byte(source(&d)))
		if e != api.OK {
			t.Fatalf("the tests' own source is refused: %d", e)
		}
		program, e, _ := module.Link(modules)
		if e != api.OK {
			counts["refused"]++
			continue
		}
		counts[sample.First(wantAgreed(t, program.Term, 400, 5).seen)]++
	}
	t.Log(counts)
	if counts["blame"] < 500 || counts["pair"] < 500 || counts["refused"] > 3000 {
		t.Errorf("too few kinds of programs were dealt: %v", counts)
	}
}

// source: an exporter and an importer of a function and a box. Each + stands for an annotation, or none, each ! for something simple.
func source(d *sample.Dice) string {
	const written = `module lib {
  export let f +> = fn (x +) + => x;
  export let twice +>> = fn (g +>) => fn (x) => g(g(x));
  export let b +x = box(!);
  let kept +> = f;
  export let again +> = twice(kept);
}
module app {
  import lib.f +>; import lib.twice +>>; import lib.b +x; import lib.again +>;
  let h +> = twice(twice(f));
  let x + = again(h(!));
  let y + = (b := (! : ?));
  let z + = first((!b, x));
  let r = (x, (h(!), z));
}`
	all := ""
	for i := 0; i < len(written); i++ {
		kind := 1
		for kind <= 3 && i+kind < len(written) && strings.Contains(">x", written[i+kind:i+kind+1]) {
			kind++
		}
		switch {
		case written[i] == '+' && kind == 3:
			all += d.One("", ": ?", ": (? -> ?) -> ?", ": (? -> ?) -> ? -> ?", ": (int -> int) -> int -> int", ": ? -> int -> ?")
			i += 2
		case written[i] == '+' && written[i+1] == '>':
			all += d.One("", "", "", ": ?", ": ? -> ?", ": int -> int", ": ? -> int", ": int -> ?")
			i++
		case written[i] == '+' && written[i+1] == 'x':
			all += d.One("", "", ": ?", ": box ?", ": box int")
			i++
		case written[i] == '+':
			all += d.One("", "", "", "", ": ?", ": int")
		case written[i] == '!' && written[i+1] != 'b':
			all += d.One("1", "2", "3", "4", "5", "6", "7", "8", "true", `"a"`)
		default:
			all += written[i : i+1]
		}
	}
	return all
}
