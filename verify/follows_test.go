package verify_test

import (
	"fmt"
	"strings"
	"testing"

	"culprit/api"
	"culprit/code"
	"culprit/core"
	"culprit/emit"
	"culprit/rough"
	"culprit/sample"
	"culprit/value"
	"culprit/verify"
)

// isOf tells whether a value is such as a type says, by its head.
func isOf(v value.Value, t string) bool {
	var e api.Errno
	switch t[0] {
	case 'i':
		_, e = value.AsNum(v)
	case 'b':
		_, e = value.AsTruth(v)
	case 't':
		_, e = value.AsText(v)
	case '>':
		_, e = value.Code(v)
	case ',':
		_, _, e = value.First(v)
	case 'l':
		_, e = value.IsEmpty(v)
	case 'x':
		_, e = value.Cell(v)
	}
	return v != nil && e != api.ErrStuck
}

func areOf(all []value.Value, types []string) bool {
	if len(all) != len(types) {
		return false
	}
	for n, v := range all {
		if !isOf(v, types[n]) {
			return false
		}
	}
	return true
}

// follower looks at a run, instruction by instruction.
type follower struct {
	t     *testing.T
	known map[rough.Place][2][]string
	last  []int // of each call that has not ended, the place of what it did last
	op    int8  // what was done last
	done  int
}

func (f *follower) each(m *rough.Machine) {
	types, asked := f.known[m.Place]
	if !asked {
		row, stack, ok := verify.Types(m.Code, m.Fn, m.At)
		if !ok {
			f.t.Fatalf("W6: %s: the run reaches %v, where no types are known", rough.Written(m.Code), m.Place)
		}
		types = [2][]string{row, reversed(stack)}
		f.known[m.Place] = types
	}
	if !areOf(m.Row, types[0]) || !areOf(m.Stack, types[1]) {
		f.t.Fatalf("W6: %s: at %v there is not what is known: %v", rough.Written(m.Code), m.Place, types)
	}
	if f.op == code.Call || f.op == code.Tail || f.done == 0 {
		f.last = append(f.last[:m.Returns], -1)
	}
	f.last = f.last[:m.Returns+1]
	if m.At <= f.last[m.Returns] {
		f.t.Fatalf("what follows: %s: at %v a second time in one call", rough.Written(m.Code), m.Place)
	}
	f.last[m.Returns] = m.At
	f.op = m.Code.Functions[m.Fn].Code[m.At].Op
	f.done++
}

// wantRuns runs a code that may run, and answers what is seen first.
func wantRuns(t *testing.T, c api.Code, fuel int) string {
	t.Helper()
	f := follower{t: t, known: map[rough.Place][2][]string{}}
	m := rough.Machine{Code: c, Fuel: fuel, Each: f.each}
	seen := m.Run(5)
	if strings.HasPrefix(seen, "stuck") || seen == "" {
		t.Fatalf("W6: %s: %s", rough.Written(c), seen)
	}
	return sample.First(seen)
}

// Code that may run finds what it wants at each instruction, whether emit laid it or not; each instruction of a function is done once at most in one call of it.
func TestCodeThatMayRunFindsWhatItWants(t *testing.T) {
	g := rough.Maker{}
	g.Dice = 204
	ends := map[string]int{}
	for range 2500 {
		c := g.Deal(g.Below(25))
		if g.Coin() {
			if c = g.Spoilt(c); told(verify.Code(c)) != "good" {
				continue
			}
		}
		ends[wantRuns(t, c, []int{40, 3, 200}[g.Below(3)])]++
	}
	m := sample.Maker{Dice: 205}
	for range 1000 {
		if c, e, _ := emit.Emit(m.Deal()); e == api.OK {
			ends[wantRuns(t, c, 60)]++
		}
	}
	for _, known := range sample.Rows() {
		if c, e, _ := emit.Emit(known.Term); e == api.OK {
			ends[wantRuns(t, c, 60)]++
		}
	}
	if ends["blame"] < 100 || ends["fault34"] < 50 || ends["fuel"] < 20 || ends["num"] < 200 || ends["fun"] < 100 {
		t.Errorf("too few kinds of runs: %v", ends)
	}
}

// Loops, by calls and by tail calls.
func TestLoops(t *testing.T) {
	for text, end := range map[string]string{
		"i: rec 1, push, tail / i i; >ii: local 1, local, tail":                                                                                   "fuel",
		"i: rec 1, push, call, ret / i i; >ii: local 1, local, call, ret":                                                                         "fuel",
		"i: rec 1, push, tail / i i; >ii: local, push 1, op Eq, unless 6, push, ret, local 1, local, local, op Neg, op Add, push 1, op Add, tail": "num",
		"?: rec 1, push, tail / i ?; >i?: local, push 1, op Eq, unless 8, push, cast i ?, ret, ret, local 1, push 1, pend i ?, pend ? i, tail":    "num",
		"i: rec 1, push, cast i ?, tail / ? i; >?i: local 1, local, cast ? i, cast i ?, pend ? i, pend i ?, tail":                                 "fuel",
	} {
		c := rough.Read(text)
		wantCode(t, c, "good")
		if got := wantRuns(t, c, 300); got != end {
			t.Errorf("W6: %s: %s, not %s", text, got, end)
		}
	}
}

// wantAllReached asks whether what emit lays of a term may run, and each place of it is reached; of long code some places.
func wantAllReached(t *testing.T, l []api.Node) {
	t.Helper()
	c, e, _ := emit.Emit(l)
	if e != api.OK {
		return
	}
	if trap, ok := verify.Code(c); !ok {
		t.Fatalf("what follows: the code of %s: %s", sample.Written(l), told(trap, ok))
	}
	step := 1 + code.Size(c)/200
	for fn, f := range c.Functions {
		for at := 0; at < len(f.Code); at += step {
			if _, _, ok := verify.Types(c, fn, at); !ok {
				t.Fatalf("what follows: the code of %s: %d %d is not reached", sample.Written(l), fn, at)
			}
		}
		if step > 1 && fn > 20 {
			break
		}
	}
}

// What emit lays may run, and all of it is reached.
func TestEmittedCode(t *testing.T) {
	for _, some := range [][]sample.Known{sample.Rows(), sample.Wholes(), sample.Orders(), sample.Depths(), sample.Texts()} {
		for _, known := range some {
			wantAllReached(t, known.Term)
		}
	}
	kinds := map[int8]bool{}
	for nodes := 1; nodes <= 4; nodes++ {
		sample.EachTree(sample.SomeNodes(), nodes, func(l []api.Node) {
			if _, e, _ := core.Check(l); e == api.OK {
				wantAllReached(t, l)
			}
		})
	}
	g := sample.Maker{Dice: 206}
	for range 1500 {
		l := g.Deal()
		wantAllReached(t, l)
		for _, n := range l {
			kinds[n.Kind] = true
		}
	}
	if len(kinds) < 28 {
		t.Errorf("too few kinds of nodes: %v", kinds)
	}
}

// That of long terms may run, too.
func TestEmittedLongCode(t *testing.T) {
	for _, known := range sample.Longs() {
		if c, e, _ := emit.Emit(known.Term); e == api.OK {
			if trap, ok := verify.Code(c); !ok {
				t.Errorf("what follows: the code of %s: %s", sample.Written(known.Term), told(trap, ok))
			}
			at := len(c.Functions[0].Code) - 1
			if _, _, ok := verify.Types(c, 0, at); !ok {
				t.Errorf("what follows: the code of %s: %s is not reached", sample.Written(known.Term), fmt.Sprint(at))
			}
		}
	}
}
