package eval_test

import (
	"slices"
	"strings"
	"testing"

	"culprit/api"
	"culprit/core"
	"culprit/eval"
	"culprit/safe"
	"culprit/sample"
)

// mayBlame tells by the casts alone whether a blame of a term may be: not all casts of its label are safe on its side.
func mayBlame(l []api.Node, blame int64) bool {
	return slices.ContainsFunc(l, func(n api.Node) bool {
		if n.Kind != api.Cast || n.N != max(blame, -blame) {
			return false
		}
		plus, minus := safe.Sides(n.T, n.U)
		return blame > 0 && !plus || blame < 0 && !minus
	})
}

// blames: all that are seen of a run.
func blames(r api.Result) (all []int64) {
	for _, o := range r.Seen {
		if o.Kind == api.OBlame {
			all = append(all, o.N)
		}
	}
	return all
}

// W1: of a term that checks a label is blamed only where not all its casts are safe on that side, by the run or in what is seen.
func TestWhoIsBlamed(t *testing.T) {
	g := sample.Maker{Dice: 21}
	runs, parts, inside, context, safeOnes := 0, 0, 0, 0, 0
	for range 40000 {
		l := g.Deal()
		r, e := eval.Run(l, 200, 8)
		if e != api.OK {
			t.Fatalf("the tests' own maker made what does not check: %s", sample.Written(l))
		}
		for _, blame := range blames(r) {
			if !mayBlame(l, blame) {
				t.Fatalf("W1: %d is blamed, but its casts are safe on that side: %s", blame, sample.Written(l))
			}
			if blame > 0 {
				inside++
			} else {
				context++
			}
			if !mayBlame(l, -blame) {
				safeOnes++
			}
			if len(r.Seen) == 1 {
				runs++
			} else {
				parts++
			}
		}
	}
	t.Logf("%d runs and %d parts blamed, %d inside, %d context, %d of them safe on the other side", runs, parts, inside, context, safeOnes)
	if runs < 1000 || parts < 300 || inside < 1000 || context < 50 || safeOnes < 500 {
		t.Errorf("too few blames: %d runs and %d parts blamed, %d inside, %d context, %d of them safe on the other side", runs, parts, inside, context, safeOnes)
	}
}

// W1, by hand: wherever a run of the rows blames, not all casts of the label are safe on that side.
func TestWhoIsBlamedByHand(t *testing.T) {
	blamed := 0
	for _, row := range sample.Rows() {
		r, _ := eval.Run(row.Term, api.MaxFuel, row.Depth)
		for _, blame := range blames(r) {
			if blamed++; !mayBlame(row.Term, blame) {
				t.Errorf("W1: %s blames %d", sample.Written(row.Term), blame)
			}
		}
	}
	if blamed < 30 {
		t.Errorf("too few blames by hand: %d", blamed)
	}
}

// Without a ? in its annotations nobody is blamed: casts there are from a type to itself.
func TestNobodyIsBlamedWithoutUnknown(t *testing.T) {
	g := sample.Maker{Dice: 22, Static: true}
	casts, values, faults := 0, 0, 0
	for range 10000 {
		l := g.Deal()
		if slices.ContainsFunc(l, func(n api.Node) bool { return strings.Contains(n.T+n.U, "?") }) {
			t.Fatalf("the tests' own maker made a ?: %s", sample.Written(l))
		}
		r, e := eval.Run(l, 200, 8)
		if e != api.OK || len(blames(r)) > 0 {
			t.Fatalf("W1: %s: %d, %s", sample.Written(l), e, sample.Told(r.Seen))
		}
		// And so the casts change nothing.
		bare := slices.DeleteFunc(slices.Clone(l), func(n api.Node) bool { return n.Kind == api.Cast })
		casts += len(l) - len(bare)
		if got, want := ran(bare, 200, 8), outcomeOf(r, e, 0); got != want {
			t.Fatalf("what follows: without its casts %s: %s; with them %s", sample.Written(l), shown(got), shown(want))
		}
		if r.Seen[0].Kind == api.OFault {
			faults++
		} else if r.Seen[0].Kind != api.OFuel {
			values++
		}
	}
	if casts < 10000 || values < 4000 || faults < 500 {
		t.Errorf("too few runs: %d casts, %d values, %d faults", casts, values, faults)
	}
}

// W6: no run of a term that checks is stuck, nor is a part of what is seen.
func TestNothingIsStuck(t *testing.T) {
	g := sample.Maker{Dice: 23}
	for range 20000 {
		l := g.Deal()
		r, e, node := eval.Loose(l, 200, 12)
		if e != api.OK || node != 0 || slices.Contains(r.Seen, api.Obs{Kind: api.OFault, N: int64(api.ErrStuck)}) {
			t.Fatalf("W6: %s: %d, %s, at %d", sample.Written(l), e, sample.Told(r.Seen), node)
		}
	}
	checked := 0
	for nodes := 1; nodes <= 4; nodes++ {
		sample.EachTree(sample.SomeNodes(), nodes, func(l []api.Node) {
			if _, e, _ := core.Check(l); e == api.OK {
				checked++
				if o := ran(l, 30, 5); strings.Contains(o.seen, "fault32") {
					t.Fatalf("W6: %s: %s", sample.Written(l), shown(o))
				}
			}
		})
	}
	if checked < 900 {
		t.Errorf("too few terms that check: %d", checked)
	}
}

// A run that ends within its fuel ends alike with more; with less than its steps it is out of fuel.
func TestFuelOfDealtTerms(t *testing.T) {
	g := sample.Maker{Dice: 24}
	ended, endless := 0, 0
	for range 4000 {
		l := g.Deal()
		if g.Below(3) == 0 {
			l = g.Spoilt(l)
		}
		o := ranLoose(l, 120, 5)
		if o.e != api.OK {
			t.Fatalf("the tests' own list %s: %s", sample.Written(l), shown(o))
		}
		if o.seen == "fuel" {
			endless++
			for fuel := range 120 {
				want(t, "what follows", l, ranLoose(l, fuel, 5), outcome{seen: "fuel", steps: fuel})
			}
			continue
		}
		ended++
		wantLoose(t, l, 5, o)
		if _, e, _ := core.Check(l); e == api.OK {
			wantRun(t, l, 5, o.seen, o.steps)
		}
	}
	if ended < 3000 || endless < 10 {
		t.Errorf("too few runs: %d, %d out of fuel", ended, endless)
	}
}
