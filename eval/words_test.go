package eval_test

import (
	"fmt"
	"testing"

	"culprit/api"
	"culprit/eval"
	"culprit/sample"
)

// shown writes a value so that a line of a test's report stays short.
func shown(v any) string {
	s := fmt.Sprintf("%+v", v)
	if len(s) > 700 {
		return s[:700] + " .."
	}
	return s
}

// outcome: what a call answers: what is seen, in words; the steps; the error, the node.
type outcome struct {
	seen  string
	steps int
	e     api.Errno
	node  int
}

func outcomeOf(r api.Result, e api.Errno, node int) outcome {
	o := outcome{sample.Told(r.Seen), r.Steps, e, node}
	if r.Frames != 0 || r.Casts != 0 {
		o.seen += " with frames or casts"
	}
	return o
}

func ran(l []api.Node, fuel, depth int) outcome {
	r, e := eval.Run(l, fuel, depth)
	return outcomeOf(r, e, 0)
}

func ranLoose(l []api.Node, fuel, depth int) outcome {
	return outcomeOf(eval.Loose(l, fuel, depth))
}

func want(t *testing.T, what string, l []api.Node, got, want outcome) {
	t.Helper()
	if got != want {
		t.Errorf("%s: %s: %s; want %s", what, sample.Written(l), shown(got), shown(want))
	}
}

// fuels: those to be tried of a run of so many steps: as many as there are, or some; and none that is no fuel.
func fuels(steps int) (less, enough []int) {
	for fuel := range steps {
		if fuel < 40 || fuel > steps-3 {
			less = append(less, fuel)
		}
	}
	for _, fuel := range []int{steps, steps + 1, steps + 7, api.MaxFuel} {
		if fuel <= api.MaxFuel {
			enough = append(enough, fuel)
		}
	}
	return less, enough
}

// wantLoose: what Loose answers with each fuel, with this depth.
func wantLoose(t *testing.T, l []api.Node, depth int, w outcome) {
	t.Helper()
	less, enough := fuels(w.steps)
	for _, fuel := range less {
		want(t, fmt.Sprintf("P16.2: fuel %d", fuel), l, ranLoose(l, fuel, depth), outcome{seen: "fuel", steps: fuel})
	}
	for _, fuel := range enough {
		want(t, fmt.Sprintf("P16.2: fuel %d", fuel), l, ranLoose(l, fuel, depth), w)
	}
}

// wantRun: what both calls answer, with each fuel.
func wantRun(t *testing.T, l []api.Node, depth int, seen string, steps int) {
	t.Helper()
	w := outcome{seen: seen, steps: steps}
	wantLoose(t, l, depth, w)
	less, enough := fuels(steps)
	for _, fuel := range less {
		want(t, fmt.Sprintf("P16.1: fuel %d", fuel), l, ran(l, fuel, depth), outcome{seen: "fuel", steps: fuel})
	}
	for _, fuel := range enough {
		want(t, fmt.Sprintf("P16.1: fuel %d", fuel), l, ran(l, fuel, depth), w)
	}
}

// gives: a term that checks, what is seen of its run, its steps.
func gives(t *testing.T, text, seen string, steps int) {
	t.Helper()
	wantRun(t, sample.Term(text), 9, seen, steps)
}

// givesLoose: the same of a term that does not check.
func givesLoose(t *testing.T, text, seen string, steps int) {
	t.Helper()
	wantLoose(t, sample.Term(text), 9, outcome{seen: seen, steps: steps})
	doesNotCheck(t, text)
}

// isStuck: a term that does not check, the node at which its run is stuck, its steps.
func isStuck(t *testing.T, text string, node, steps int) {
	t.Helper()
	wantLoose(t, sample.Term(text), 9, outcome{seen: "fault32", steps: steps, node: node})
	doesNotCheck(t, text)
}

func doesNotCheck(t *testing.T, text string) {
	t.Helper()
	if got := ran(sample.Term(text), api.MaxFuel, 9); got.e == api.OK || got != (outcome{e: got.e}) {
		t.Errorf("P16.1: %s: %s; want an error, and nothing beside it", text, shown(got))
	}
}
