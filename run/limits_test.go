package run_test

import (
	"math"
	"testing"

	"culprit/api"
	"culprit/emit"
	"culprit/rough"
	"culprit/run"
	"culprit/sample"
)

func codes() map[string]api.Code {
	return map[string]api.Code{
		"good": rough.Read("i: push, push, op Add, ret"), "of no function": {}, "one that traps": rough.Read("i: op 99"), "one whose cast is none": {Casts: []api.Waits{{From: "i", To: "b"}}},
		"endless": rough.Read("i: rec 1, push, tail / i i; >ii: local 1, local, tail"),
	}
}

// Fuel and depth at their bounds, one beyond, and far beyond: ErrArg ahead of all else.
func TestFuelAndDepth(t *testing.T) {
	fuels := map[int]bool{0: true, 1: true, api.MaxFuel - 1: true, api.MaxFuel: true, api.MaxFuel + 1: false, -1: false, math.MinInt: false, math.MaxInt: false, 1 << 32: false, -1 << 32: false}
	depths := map[int]bool{0: true, 1: true, api.MaxObs - 1: true, api.MaxObs: true, api.MaxObs + 1: false, -1: false, math.MinInt: false, math.MaxInt: false, 1 << 32: false, -1 << 32: false}
	for what, c := range codes() {
		for fuel, mayFuel := range fuels {
			for depth, mayDepth := range depths {
				r, e := run.Run(c, fuel, depth)
				if (e == api.ErrArg) != !(mayFuel && mayDepth) || e == api.ErrArg && toldRun(r, e) != "ErrArg 0 0" {
					t.Errorf("P21.1: %s, fuel %d, depth %d: %s", what, fuel, depth, toldRun(r, e))
				}
				r, trap := run.Loose(c, fuel, depth)
				if (trap.Err == api.ErrArg) != !(mayFuel && mayDepth) || trap.Err == api.ErrArg && told(r, trap) != "ErrArg 0 -1" {
					t.Errorf("P21.2: %s, fuel %d, depth %d: %s", what, fuel, depth, told(r, trap))
				}
			}
		}
	}
}

// Code that may not run: the error of its trap; no function: ErrFn.
func TestCodeThatMayNotRun(t *testing.T) {
	for what, want := range map[string][2]string{
		"good": {"num14 1 0 0", "num14 1 0 0"}, "of no function": {"ErrFn 0 0", "ErrFn 0 -1"}, "one that traps": {"ErrOp 0 0", "ErrOp 0 0"},
		"one whose cast is none": {"ErrCast 0 0", "ErrFn 0 -1"}, "endless": {"fuel 2048 0 0", "fuel 2048 0 0"},
	} {
		c := codes()[what]
		if got := toldRun(run.Run(c, api.MaxFuel, api.MaxObs)); got != want[0] {
			t.Errorf("P21.1: %s: %s, not %s", what, got, want[0])
		}
		if got := told(run.Loose(c, api.MaxFuel, api.MaxObs)); got != want[1] {
			t.Errorf("P21.2: %s: %s, not %s", what, got, want[1])
		}
	}
	// Such as Loose runs to its end, and Run does not run at all.
	for text, want := range map[string]string{
		"i: push, ret, push": "", // what is not reached
		"b: push, ret":       "ErrKind 0 0", "i: push, push, ret": "ErrStack 0 0", "i: push, pend i i, ret": "ErrStack 0 0", "i: push, cast b b, ret": "ErrFrom 0 0",
		"i: fn 1, push, call, ret / i b: local, ret": "ErrKind 0 0", "i i: push, ret": "ErrShape 0 0", "i: push, let, fn 1, local, call, ret / i i: local, ret": "ErrRow 0 0",
	} {
		c := rough.Read(text)
		r, e := run.Run(c, 9, 9)
		if s, trap := run.Loose(c, 9, 9); trap != (api.Trap{}) || sample.Told(s.Seen) != "num7" {
			t.Errorf("P21.2: %s: %s", text, told(s, trap))
		}
		if want == "" && e != api.OK || want != "" && toldRun(r, e) != want {
			t.Errorf("P21.1: %s: %s, not %s", text, toldRun(r, e), want)
		}
	}
}

// Fuel that is just enough, and one less, of runs with a known number of steps.
func TestJustEnough(t *testing.T) {
	terms := 0
	for _, some := range [][]sample.Known{sample.Rows(), sample.Orders(), sample.Texts(), sample.Longs()} {
		for _, known := range some {
			c, e, _ := emit.Emit(known.Term)
			if e != api.OK {
				continue
			}
			terms++
			want := known.Seen
			if r, e := run.Run(c, known.Steps, known.Depth); e != api.OK || sample.Told(r.Seen) != want || r.Steps != known.Steps {
				t.Errorf("P21.1: %s, fuel %d: %s, not %s", sample.Written(known.Term), known.Steps, toldRun(r, e), want)
			}
			if known.Steps == 0 {
				continue
			}
			if r, e := run.Run(c, known.Steps-1, known.Depth); e != api.OK || sample.Told(r.Seen) != "fuel" || r.Steps != known.Steps-1 {
				t.Errorf("P21.1: %s, fuel %d: %s, not out of it", sample.Written(known.Term), known.Steps-1, toldRun(r, e))
			}
		}
	}
	if terms < 200 {
		t.Errorf("too few terms: %d", terms)
	}
}

// What is seen at depths 0, 1 and more: as much of it as value.Seen tells, and no step more.
func TestDepths(t *testing.T) {
	for depth, want := range []string{"deep", "pair deep deep", `pair pair deep blame2 cons deep deep`, `pair pair num7 blame2 cons text"a" empty`} {
		text := ",,iblt: push, push, pair, cast ,ii ,i?, cast ,i? ,ib 2, text, list 1 t, pair, ret"
		wantCode(t, rough.Read(text), depth, want+" 3 0 0")
	}
	for _, known := range sample.Depths() {
		c, e, _ := emit.Emit(known.Term)
		if e != api.OK {
			t.Fatalf("the tests' own term: %d", e)
		}
		if r, e := run.Run(c, api.MaxFuel, known.Depth); e != api.OK || sample.Told(r.Seen) != known.Seen || r.Steps != known.Steps {
			t.Errorf("P21.1: %s, depth %d: %s, not %s", sample.Written(known.Term), known.Depth, toldRun(r, e), known.Seen)
		}
	}
	// Of a blame, a fault, or where the fuel is used up, what is told does not hang on the depth.
	for depth := range 3 {
		wantCode(t, rough.Read("b: push, cast i ?, cast ? b 2, ret"), depth, "blame2 0 0 0")
		wantCode(t, rough.Read("i: list 0 i, part Head, ret"), depth, "fault34 2 0 0")
		wantCode(t, codes()["endless"], depth, "fuel 900 0 0")
	}
}
