package run_test

import (
	"slices"
	"testing"

	"culprit/api"
	"culprit/core"
	"culprit/emit"
	"culprit/eval"
	"culprit/flow"
	"culprit/run"
	"culprit/sample"
)

// wantAlike asks whether the code of a term does what the term does, cast by cast and by coercions, with that fuel: the same is seen, blamed, faulted, at the same step. It answers what the run ends with, and its steps.
func wantAlike(t *testing.T, l []api.Node, fuel, depth int) (ends string, steps int) {
	t.Helper()
	c, e, _ := emit.Emit(l)
	if e == api.ErrMany {
		return "many", 0
	}
	r, e := run.Run(c, fuel, depth)
	if e != api.OK {
		t.Fatalf("W6: the code of %s may not run: %d", sample.Written(l), e)
	}
	byCasts, e := eval.Run(l, fuel, depth)
	byCoercions, x := flow.Run(l, fuel, depth)
	if e != api.OK || x != api.OK {
		t.Fatalf("the tests' own term %s: %d, %d", sample.Written(l), e, x)
	}
	for _, other := range []api.Result{byCasts, byCoercions} {
		if !slices.Equal(r.Seen, other.Seen) || r.Steps != other.Steps {
			t.Fatalf("W3: %s, fuel %d: %s; not %s, %d steps", sample.Written(l), fuel, told(r, api.Trap{}), sample.Told(other.Seen), other.Steps)
		}
	}
	if r.Casts > r.Frames+1 {
		t.Fatalf("W4: %s: %s", sample.Written(l), told(r, api.Trap{}))
	}
	return sample.First(sample.Told(r.Seen)), r.Steps
}

// wantAlikeEver asks for it with every fuel from 0 on to one more than is used up.
func wantAlikeEver(t *testing.T, l []api.Node, depth int) {
	t.Helper()
	_, steps := wantAlike(t, l, 40, depth)
	for fuel := range steps + 2 {
		wantAlike(t, l, fuel, depth)
	}
}

// What emit lays of a term does what the term does.
func TestKnownTerms(t *testing.T) {
	for _, some := range [][]sample.Known{sample.Rows(), sample.Orders(), sample.Wholes()} {
		for _, known := range some {
			wantAlikeEver(t, known.Term, known.Depth)
			wantAlike(t, known.Term, api.MaxFuel, known.Depth)
		}
	}
	for _, some := range [][]sample.Known{sample.Depths(), sample.Texts()} {
		for _, known := range some {
			for _, fuel := range []int{known.Steps, known.Steps - 1, known.Steps / 2} {
				wantAlike(t, known.Term, max(fuel, 0), known.Depth)
			}
		}
	}
}

func TestShortTerms(t *testing.T) {
	for nodes := 1; nodes <= 4; nodes++ {
		sample.EachTree(sample.SomeNodes(), nodes, func(l []api.Node) {
			if _, e, _ := core.Check(l); e == api.OK {
				wantAlikeEver(t, l, 4)
			}
		})
	}
}

func TestDealtTerms(t *testing.T) {
	g := sample.Maker{Dice: 215}
	ends := map[string]int{}
	for n := range 12000 {
		l := g.Deal()
		if n%6 == 0 {
			wantAlikeEver(t, l, 5)
			continue
		}
		first, _ := wantAlike(t, l, []int{200, 200, 5, 17}[g.Below(4)], 6)
		ends[first]++
	}
	if ends["blame"] < 300 || ends["fault34"] < 200 || ends["fuel"] < 50 || ends["num"] < 500 || ends["fun"] < 100 {
		t.Errorf("too few kinds of runs: %v", ends)
	}
}

// Terms in which an annotation or a cast's type is changed, of those that still check.
func TestSpoiltTerms(t *testing.T) {
	g := sample.Maker{Dice: 216}
	good := 0
	for range 20000 {
		l := g.Spoilt(g.Deal())
		if _, e, _ := core.Check(l); e != api.OK {
			continue
		}
		good++
		wantAlike(t, l, 100, 4)
	}
	if good < 500 {
		t.Errorf("too few terms: %d", good)
	}
}

// over answers a term in which things go over borders and back, again and again: functions, what their bodies answer, and what is cast.
func over(g *sample.Maker, l []api.Node) (all []api.Node) {
	there := func(t string) {
		for g.Below(3) > 0 {
			u := g.Near(t)
			all = append(all, api.Node{Kind: api.Cast, Kids: 1, T: u, U: t, N: int64(50 + g.Below(40))}, api.Node{Kind: api.Cast, Kids: 1, T: t, U: u, N: int64(50 + g.Below(40))})
		}
	}
	for _, n := range l {
		switch n.Kind {
		case api.Cast:
			there(n.U)
			all = append(all, n)
			there(n.T)
		case api.Fn, api.Rec:
			if len(n.T)+len(n.U) < 60 {
				there(">" + n.T + n.U)
			}
			all = append(all, n)
			there(n.U)
		default:
			all = append(all, n)
		}
	}
	return all
}

// Terms whose values go over borders and back many times, in calls and tails.
func TestTermsWithManyBorders(t *testing.T) {
	g := sample.Maker{Dice: 217}
	ends, waited := map[string]int{}, 0
	for range 4000 {
		l := over(&g, g.Deal())
		if _, e, _ := core.Check(l); e != api.OK {
			continue
		}
		first, _ := wantAlike(t, l, 150, 5)
		ends[first]++
		c, _, _ := emit.Emit(l)
		r, _ := run.Run(c, 150, 5)
		if r.Casts > 0 {
			waited++
		}
	}
	if ends["blame"] < 200 || ends["num"] < 200 || ends["fun"] < 100 || waited < 200 {
		t.Errorf("too few kinds of runs: %v, %d", ends, waited)
	}
}
