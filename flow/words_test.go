package flow_test

import (
	"fmt"
	"testing"

	"culprit/api"
	"culprit/eval"
	"culprit/flow"
	"culprit/sample"
)

// outcome: what a call answers: what is seen, in words; the steps; the error.
type outcome struct {
	seen  string
	steps int
	e     api.Errno
}

func outcomeOf(r api.Result, e api.Errno) outcome {
	o := outcome{sample.Told(r.Seen), r.Steps, e}
	if r.Frames != 0 || r.Casts != 0 {
		o.seen += " with frames or casts"
	}
	return o
}

func (o outcome) String() string {
	s := fmt.Sprintf("%s in %d steps, error %d", o.seen, o.steps, int(o.e))
	if len(s) > 700 {
		return s[:350] + " .. " + s[len(s)-350:]
	}
	return s
}

func ran(l []api.Node, fuel, depth int) outcome { return outcomeOf(flow.Run(l, fuel, depth)) }

// byCasts: the same, run cast by cast.
func byCasts(l []api.Node, fuel, depth int) outcome { return outcomeOf(eval.Run(l, fuel, depth)) }

func want(t *testing.T, what string, l []api.Node, got, want outcome) {
	t.Helper()
	if got != want {
		t.Errorf("%s: %s: %s; want %s", what, sample.Written(l), got, want)
	}
}

// wantKnown: what is answered with each of some fuels.
func wantKnown(t *testing.T, k sample.Known, fuels ...int) {
	t.Helper()
	for _, fuel := range fuels {
		if fuel < 0 || fuel > api.MaxFuel {
			continue
		}
		w := outcome{seen: k.Seen, steps: k.Steps}
		if fuel < k.Steps {
			w = outcome{seen: "fuel", steps: fuel}
		}
		want(t, fmt.Sprintf("P17.1: fuel %d", fuel), k.Term, ran(k.Term, fuel, k.Depth), w)
	}
}

// someFuels: of a run of so many steps each number of steps, or some; and more.
func someFuels(steps int) (all []int) {
	for fuel := range steps {
		if fuel < 40 || fuel > steps-3 {
			all = append(all, fuel)
		}
	}
	return append(all, steps, steps+1, steps+7, api.MaxFuel)
}

// gives: a term that checks, what is seen of its run, its steps, with each fuel.
func gives(t *testing.T, text, seen string, steps int) {
	t.Helper()
	wantKnown(t, sample.Known{Term: sample.Term(text), Depth: 9, Seen: seen, Steps: steps}, someFuels(steps)...)
}

// wantAgreed holds a run by coercions against one cast by cast.
func wantAgreed(t *testing.T, l []api.Node, fuel, depth int) outcome {
	t.Helper()
	got, w := ran(l, fuel, depth), byCasts(l, fuel, depth)
	if got != w {
		t.Fatalf("W3: fuel %d, depth %d: %s: %s; cast by cast %s", fuel, depth, sample.Written(l), got, w)
	}
	return got
}
