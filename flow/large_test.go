package flow_test

import (
	"strings"
	"testing"

	"culprit/api"
	"culprit/core"
	"culprit/relate"
	"culprit/sample"
)

func boxes(deep int, leaf string) string { return strings.Repeat("x", deep) + leaf }

// inBoxes: a term in so many boxes.
func inBoxes(deep int, l []api.Node) []api.Node {
	return sample.Nested(api.Node{Kind: api.Box}, deep, l)
}

func gets(deep int, l []api.Node) []api.Node {
	return sample.Nested(api.Node{Kind: api.Get}, deep, l)
}

// Each box doubles what is below it: casts of boxes in boxes have large coercions. What they do is what small ones do.
func TestLargeCoercions(t *testing.T) {
	number, truth := sample.Term("Cast i ? 9 (Num 1)"), sample.Term("Cast b ? 8 (Truth 1)")
	for _, deep := range []int{2, 5, 7, 8, 9, 10, 12, 14, 16} {
		unknown, ints, truths := boxes(deep, "?"), boxes(deep, "i"), boxes(deep, "b")
		v := inBoxes(deep, number)
		asInts := sample.Cast(unknown, ints, 1, v)
		within := func(l []api.Node) []api.Node { return sample.Of(api.Let, inBoxes(deep, sample.Num(1)), l) }
		loosened := sample.Cast(ints, unknown, 3, sample.Var(0))
		for _, k := range []sample.Known{
			{Term: asInts, Depth: 4, Seen: "box", Steps: deep},
			{Term: gets(deep, asInts), Depth: 4, Seen: "num1", Steps: 2 * deep},
			{Term: gets(deep, sample.Cast(unknown, truths, 2, sample.Cast(ints, unknown, 3, asInts))), Depth: 4, Seen: "blame2", Steps: 2 * deep},
			{Term: gets(deep, sample.Cast(unknown, truths, 2, sample.Cast(truths, unknown, 3, sample.Cast(unknown, truths, 4, v)))), Depth: 4, Seen: "blame4", Steps: 2 * deep},
			{Term: gets(deep, sample.Cast(unknown, ints, 2, sample.Cast(ints, unknown, 3, asInts))), Depth: 4, Seen: "num1", Steps: 2 * deep},
			{Term: gets(deep, sample.Cast("?", ints, 5, sample.Cast(unknown, "?", 4, v))), Depth: 4, Seen: "num1", Steps: 2 * deep},
			{Term: gets(deep, sample.Cast("?", truths, 5, sample.Cast(unknown, "?", 4, v))), Depth: 4, Seen: "blame5", Steps: 2 * deep},
			// What is set is blamed on who sets it: a truth into the innermost box, or a box of it into the outermost one.
			{Term: within(sample.Of(api.Set, gets(deep-1, loosened), truth)), Depth: 4, Seen: "blame-3", Steps: 2 * deep},
			{Term: within(sample.Of(api.Let, sample.Of(api.Set, loosened, inBoxes(deep-1, number)), gets(deep, sample.Var(1)))), Depth: 4, Seen: "num1", Steps: 3 * deep},
			{Term: within(sample.Of(api.Let, sample.Of(api.Set, loosened, inBoxes(deep-1, truth)), gets(deep, sample.Var(1)))), Depth: 4, Seen: "blame-3", Steps: 3 * deep},
		} {
			wantKnown(t, k, k.Steps-1, k.Steps, api.MaxFuel)
			wantAgreed(t, k.Term, api.MaxFuel, 4)
		}
	}
}

// Values that go over many borders, some of them with large coercions and some without, and are taken apart, set and looked at then.
func TestLargeAndSmallCoercions(t *testing.T) {
	g := sample.Maker{Dice: 45}
	counts := map[string]int{}
	for range 250 {
		deep := 4 + g.Below(8)
		had := boxes(deep, g.One("i", "?", "?"))
		leaf := sample.Num(5)
		if had[deep] == '?' {
			leaf = sample.Term(g.One("Cast i ? 9 (Num 5)", "Cast i ? 9 (Num 5)", "Cast b ? 8 (Truth 1)", "Cast x? ? 7 (Box(Cast i ? 6 (Num 5)))"))
		}
		l, t1 := inBoxes(deep, leaf), had
		for range 2 + g.Below(6) {
			u := g.One("?", boxes(g.Below(deep+1), "?"), boxes(deep, "?"), boxes(deep, "i"), boxes(deep, "i"), boxes(deep, "b"))
			if relate.Consistent(t1, u) {
				l, t1 = sample.Cast(t1, u, g.Label(), l), u
			}
		}
		l = sample.Of(api.Let, l, boxUses(&g, t1, deep))
		if _, e, at := core.Check(l); e != api.OK {
			t.Fatalf("the tests' own term is refused: %d at %d: %s", e, at, sample.Written(l))
		}
		counts[sample.First(wantAgreed(t, l, 200, 4).seen)]++
	}
	t.Log(counts)
	if counts["num"]+counts["box"] < 50 || counts["blame"] < 50 {
		t.Errorf("too few kinds of runs: %v", counts)
	}
}

// boxUses: a box that the nearest binder has, of that type, taken out of one another so deep; what it has inside is set to itself on the way.
func boxUses(g *sample.Maker, t string, deep int) []api.Node {
	it := sample.Var(0)
	switch {
	case t == "?" && deep > 0:
		u := boxes(deep, g.One("?", "i"))
		return sample.Of(api.Let, sample.Cast("?", u, g.Label(), it), boxUses(g, u, deep))
	case t[0] != 'x' || deep == 0:
		return it
	}
	inner := boxUses(g, t[1:], deep-1)
	if g.Below(3) > 0 {
		return sample.Of(api.Let, sample.Of(api.Get, it), inner)
	}
	return sample.Of(api.Let, sample.Of(api.Set, it, sample.Of(api.Get, it)), inner)
}

// A loop over a border with large coercions.
func TestLoopsOfLargeCoercions(t *testing.T) {
	for _, deep := range []int{8, 9, 11} {
		unknown, ints := boxes(deep, "?"), boxes(deep, "i")
		goes := sample.UntilZero("i", unknown, inBoxes(deep, sample.Term("Cast i ? 9 (Num 1)")), func(call []api.Node) []api.Node {
			return sample.Cast(ints, unknown, 2, sample.Cast(unknown, ints, 1, call))
		})
		l := sample.Cast("?", "i", 3, gets(deep, sample.Of(api.Call, goes, sample.Num(60))))
		wantKnown(t, sample.Known{Term: l, Depth: 4, Seen: "num1", Steps: 1 + 4*60 + 2 + 2*deep}, api.MaxFuel)
	}
}

// Where the coercion would have more nodes than can be, the same is seen all the same: what is handed in and answered is small.
func TestMoreThanCanBe(t *testing.T) {
	number := sample.Term("Cast i ? 9 (Num 1)")
	for _, deep := range []int{31, 40, 62, 63} {
		unknown, ints, truths := boxes(deep, "?"), boxes(deep, "i"), boxes(deep, "b")
		for _, k := range []sample.Known{
			{Term: sample.Cast(unknown, ints, 1, inBoxes(deep, number)), Depth: 4, Seen: "box", Steps: deep},
			{Term: gets(deep, sample.Cast(ints, ints, 1, inBoxes(deep, sample.Num(1)))), Depth: 4, Seen: "num1", Steps: 2 * deep},
			{Term: gets(deep, sample.Cast("?", truths, 3, sample.Cast(ints, "?", 2, sample.Cast(unknown, ints, 1, inBoxes(deep, number))))), Depth: 4, Seen: "blame3", Steps: 2 * deep},
		} {
			wantKnown(t, k, k.Steps-1, k.Steps, api.MaxFuel)
			wantAgreed(t, k.Term, api.MaxFuel, 4)
		}
	}
}
