package emit_test

import (
	"slices"
	"testing"

	"culprit/api"
	"culprit/code"
	"culprit/core"
	"culprit/emit"
	"culprit/eval"
	"culprit/rough"
	"culprit/sample"
)

// wantRuns asks whether the code of a term may run, and does what the term does, with that fuel.
func wantRuns(t *testing.T, l []api.Node, fuel, depth int) {
	t.Helper()
	c, e, _ := emit.Emit(l)
	if e == api.ErrMany {
		return
	}
	if trap, known := rough.Look(c); trap.Err != api.OK || len(known) < code.Size(c) {
		t.Fatalf("what follows: the code of %s may not run: %v; of %d instructions %d are reached:\n%s", sample.Written(l), trap, code.Size(c), len(known), told(c))
	}
	want, e := eval.Run(l, fuel, depth)
	if e != api.OK {
		t.Fatalf("the tests' own term %s: %d", sample.Written(l), e)
	}
	if seen, steps := rough.Run(c, fuel, depth); seen != sample.Told(want.Seen) || steps != want.Steps {
		t.Fatalf("W3: %s: %s, %d steps; its code %s, %d steps:\n%s", sample.Written(l), short(sample.Told(want.Seen)), want.Steps, short(seen), steps, told(c))
	}
}

// What is laid of a term that checks may run, and does what the term does, step for step.
func TestCodeOfKnownTerms(t *testing.T) {
	for _, some := range [][]sample.Known{sample.Rows(), sample.Wholes(), sample.Orders(), sample.Depths(), sample.Texts()} {
		for _, known := range some {
			for _, fuel := range []int{known.Steps, known.Steps - 1, known.Steps / 2} {
				if fuel >= 0 {
					wantRuns(t, known.Term, fuel, known.Depth)
				}
			}
		}
	}
}

func TestCodeOfShortTerms(t *testing.T) {
	for nodes := 1; nodes <= 4; nodes++ {
		sample.EachTree(sample.SomeNodes(), nodes, func(l []api.Node) {
			if _, e, _ := core.Check(l); e == api.OK {
				wantRuns(t, l, 20, 4)
			}
		})
	}
}

func TestCodeOfDealtTerms(t *testing.T) {
	g := sample.Maker{Dice: 192}
	ends := map[string]int{}
	for range 12000 {
		l := g.Deal()
		fuel := []int{200, 200, 5, 17}[g.Below(4)]
		wantRuns(t, l, fuel, 6)
		r, _ := eval.Run(l, fuel, 6)
		ends[sample.First(sample.Told(r.Seen))]++
	}
	if ends["blame"] < 300 || ends["fault34"] < 200 || ends["fuel"] < 50 || ends["num"] < 500 || ends["fun"] < 100 {
		t.Errorf("too few kinds of runs: %v", ends)
	}
}

// No jump leads back; behind each call in the tail nothing stands that could still be done: it ends the function, or what stands behind it is led to.
func TestNothingLeadsBack(t *testing.T) {
	g := sample.Maker{Dice: 193}
	jumps, tails := 0, 0
	for range 6000 {
		l := g.Deal()
		c, e, _ := emit.Emit(l)
		if e != api.OK {
			continue
		}
		for _, f := range c.Functions {
			targets := map[int]bool{len(f.Code): true}
			for at, i := range f.Code {
				switch i.Op {
				case code.Jump, code.Unless:
					jumps++
					targets[i.A] = true
					if i.A <= at || i.A >= len(f.Code) {
						t.Fatalf("what follows: %s: a jump from %d to %d:\n%s", sample.Written(l), at, i.A, told(c))
					}
				}
			}
			for at, i := range f.Code {
				if i.Op == code.Tail || i.Op == code.Ret {
					tails++
					if !targets[at+1] {
						t.Fatalf("what follows: %s: something is done behind %d:\n%s", sample.Written(l), at, told(c))
					}
				}
			}
		}
	}
	if jumps < 1000 || tails < 10000 {
		t.Errorf("too few jumps and ends: %d, %d", jumps, tails)
	}
}

// As many instructions of each kind are laid as the term has nodes.
func TestAsManyAsNodes(t *testing.T) {
	g := sample.Maker{Dice: 194}
	laid := map[int8]int8{api.Num: code.Push, api.Str: code.Text, api.Truth: code.Truth, api.Var: code.Local, api.Fn: code.Fn, api.Rec: code.Rec, api.Let: code.Let, api.If: code.Unless,
		api.Pair: code.Pair, api.List: code.List, api.Cons: code.Cons, api.Box: code.Box, api.Get: code.Get, api.Set: code.Set}
	for range 6000 {
		l := g.Deal()
		c, e, _ := emit.Emit(l)
		if e != api.OK {
			continue
		}
		nodes, instructions := map[int8]int{}, map[int8]int{}
		for _, n := range l {
			nodes[n.Kind]++
		}
		operations := map[int8]int{}
		for _, f := range c.Functions {
			for _, i := range f.Code {
				instructions[i.Op]++
				if i.Op == code.Op || i.Op == code.Part {
					operations[int8(i.A)]++
				}
			}
		}
		for kind, op := range laid {
			if nodes[kind] != instructions[op] {
				t.Fatalf("P19.2: %s: %d nodes of the kind %d, %d instructions:\n%s", sample.Written(l), nodes[kind], kind, instructions[op], told(c))
			}
		}
		for _, kind := range []int8{api.Add, api.Sub, api.Mul, api.Join, api.Eq, api.Less, api.Neg, api.Size, api.First, api.Second, api.Head, api.Tail, api.Empty} {
			if nodes[kind] != operations[kind] {
				t.Fatalf("P19.2: %s: %d nodes of the kind %d, %d operations:\n%s", sample.Written(l), nodes[kind], kind, operations[kind], told(c))
			}
		}
		if nodes[api.Call] != instructions[code.Call]+instructions[code.Tail] {
			t.Fatalf("P19.2: %s: %d calls, %d and %d laid", sample.Written(l), nodes[api.Call], instructions[code.Call], instructions[code.Tail])
		}
		if len(c.Functions) != 1+nodes[api.Fn]+nodes[api.Rec] {
			t.Fatalf("P19.1: %s: %d functions", sample.Written(l), len(c.Functions))
		}
	}
}

// withLabels answers a term with other labels.
func withLabels(l []api.Node, other func(int64) int64) []api.Node {
	l = slices.Clone(l)
	for i := range l {
		if l[i].Kind == api.Cast {
			l[i].N = other(l[i].N)
		}
	}
	return l
}

// Two terms that differ in labels alone, one by one, have codes that differ in coercions alone: in their labels.
func TestLabelsAlone(t *testing.T) {
	g := sample.Maker{Dice: 195}
	other := 0
	for range 6000 {
		l := g.Deal()
		c, e, _ := emit.Emit(l)
		if e != api.OK {
			continue
		}
		d := good(t, withLabels(l, func(n int64) int64 { return n*7 + 3 }))
		for i, w := range d.Casts {
			for j := range w.Co {
				if n := &w.Co[j]; n.Proj > 0 {
					n.Proj = (n.Proj - 3) / 7
					other++
				} else if n.Proj < 0 {
					n.Proj = (n.Proj + 3) / 7
					other++
				}
			}
			d.Casts[i] = w
		}
		if code.Show(c) != code.Show(d) {
			t.Fatalf("what follows: %s: with other labels\n%s; not\n%s", sample.Written(l), told(d), told(c))
		}
		// With one label everywhere: casts may come together, what is done with them stays.
		d = good(t, withLabels(l, func(int64) int64 { return 1 }))
		if bodiesWithoutCasts(c) != bodiesWithoutCasts(d) {
			t.Fatalf("what follows: %s: with one label\n%s; not\n%s", sample.Written(l), told(d), told(c))
		}
	}
	if other < 5000 {
		t.Errorf("too few labels: %d", other)
	}
}

// bodiesWithoutCasts writes the functions, each cast by its types.
func bodiesWithoutCasts(c api.Code) string {
	all := heads(c)
	for _, f := range c.Functions {
		all += " /"
		for _, i := range f.Code {
			all += " " + code.Name(i.Op)
			if i.Op == code.Cast || i.Op == code.Pend {
				all += " " + c.Casts[i.A].From + " " + c.Casts[i.A].To
			} else {
				all += " " + string(rune('0'+i.A)) + " " + string(rune('0'+i.B))
			}
		}
	}
	return all
}
