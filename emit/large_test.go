package emit_test

import (
	"slices"
	"strings"
	"testing"

	"culprit/api"
	"culprit/code"
	"culprit/emit"
	"culprit/rough"
	"culprit/sample"
)

// deepest: nodes one in another, as many as may be, around one more.
const deepest = api.MaxHigh - 1

// around answers so many nodes, each made of what is in it.
func around(times int, l []api.Node, one func([]api.Node) []api.Node) []api.Node {
	for range times {
		l = one(l)
	}
	return l
}

// Terms as deep as may be, by what stands deep in them.
func TestDeepTerms(t *testing.T) {
	num, truth := sample.Num(1), sample.Truth(1)
	for what, l := range map[string][]api.Node{
		"Negs":                   negs(deepest, num),
		"casts":                  sample.Nested(api.Node{Kind: api.Cast, T: "i", U: "i", N: 1}, deepest, num),
		"casts back":             around(deepest/2, num, func(l []api.Node) []api.Node { return sample.Cast("?", "i", 2, sample.Cast("i", "?", 1, l)) }),
		"casts of a kid":         negs(1, sample.Nested(api.Node{Kind: api.Cast, T: "i", U: "i", N: 1}, deepest-1, num)),
		"Lets in the second kid": around(deepest, sample.Var(700), func(l []api.Node) []api.Node { return sample.Of(api.Let, num, l) }),
		"Lets in the first kid":  around(deepest, num, func(l []api.Node) []api.Node { return sample.Of(api.Let, l, sample.Var(0)) }),
		"Lets of a kid":          negs(1, around(deepest-1, sample.Var(700), func(l []api.Node) []api.Node { return sample.Of(api.Let, num, l) })),
		"conditions":             around(deepest, truth, func(l []api.Node) []api.Node { return sample.Of(api.If, l, truth, truth) }),
		"second kids of choices": around(deepest, num, func(l []api.Node) []api.Node { return sample.Of(api.If, truth, l, num) }),
		"third kids of choices":  around(deepest, num, func(l []api.Node) []api.Node { return sample.Of(api.If, truth, num, l) }),
		"choices of a kid":       negs(1, around(deepest-1, num, func(l []api.Node) []api.Node { return sample.Of(api.If, truth, num, l) })),
		"functions":              around(deepest/2, num, func(l []api.Node) []api.Node { return sample.Of(api.Call, sample.Fn("i", "i", l), num) }),
		"recursive functions":    around(deepest/2, sample.Var(900), func(l []api.Node) []api.Node { return sample.Of(api.Call, sample.Rec("i", "i", l), num) }),
		"calls of calls":         around(deepest-1, num, func(l []api.Node) []api.Node { return sample.Of(api.Call, sample.Fn("i", "i", sample.Var(0)), l) }),
		"casts and choices": around(deepest/2, num, func(l []api.Node) []api.Node {
			return sample.Cast("i", "i", 1, sample.Of(api.Let, num, l))
		}),
	} {
		if !wantModel(t, l) {
			t.Errorf("the tests' own term of %s does not check", what)
		}
	}
}

// Terms with as many nodes as may be, and their runs.
func TestLongTerms(t *testing.T) {
	laid := 0
	for _, known := range sample.Longs() {
		if _, e, _ := emit.Emit(known.Term); e == api.ErrMany {
			continue
		}
		laid++
		wantModel(t, known.Term)
		c := good(t, known.Term)
		if trap, reached := rough.Look(c); trap.Err != api.OK || len(reached) < code.Size(c) {
			t.Errorf("what follows: the code of %s may not run: %v", sample.Written(known.Term), trap)
		}
		if seen, steps := rough.Run(c, api.MaxFuel, known.Depth); steps != known.Steps || known.Seen != "" && seen != known.Seen {
			t.Errorf("W3: %s: %s, %d steps; not %s, %d", sample.Written(known.Term), short(seen), steps, short(known.Seen), known.Steps)
		}
	}
	if laid < 15 {
		t.Errorf("too few long terms: %d", laid)
	}
}

// Rows as long as may be, for as many functions as may have them.
func TestLongRows(t *testing.T) {
	functions := sample.List(">ii", slices.Repeat([][]api.Node{sample.Fn("i", "i", sample.Var(1000))}, 4500)...)
	lets := slices.Repeat([]api.Node{{Kind: api.Let, Kids: 2}, {Kind: api.Num, N: 1}}, 1000)
	c := good(t, slices.Concat(lets, functions))
	if len(c.Functions) != 4501 {
		t.Fatalf("P19.1: %d functions", len(c.Functions))
	}
	for _, f := range c.Functions[1:] {
		if len(f.Env) != 1000 || f.Code[0] != (api.Ins{Op: code.Local, A: 1000}) {
			t.Fatalf("P19.1: a row of %d, %v", len(f.Env), f.Code)
		}
	}
	// Each with a type of its own: from the nearest on.
	all, want := sample.Fn("?", "?", sample.Var(0)), []string{}
	for i := range 60 {
		of := strings.Repeat("l", i) + "i"
		all = sample.Of(api.Let, sample.List(of), all)
		want = append(want, "l"+of)
	}
	if got := good(t, all).Functions[1].Env; !slices.Equal(got, want) {
		t.Errorf("P19.1: the row %v", got)
	}
}

// Many things of each kind, each with a place of its own, and again.
func TestManyPlaces(t *testing.T) {
	nums := sample.List("i")
	for range 2 {
		for i := range 5000 {
			nums = append(nums, sample.Num(int64(i)*int64(i))...)
		}
	}
	nums[0].Kids = len(nums) - 1
	c := good(t, nums)
	if len(c.Nums) != 5000 {
		t.Fatalf("P19.2: %d numbers", len(c.Nums))
	}
	for i, ins := range c.Functions[0].Code[:10000] {
		if ins.A != i%5000 || c.Nums[ins.A] != int64(i%5000)*int64(i%5000) {
			t.Fatalf("P19.2: the number %d has the place %d", i, ins.A)
		}
	}
	// Casts with labels of their own.
	casts := sample.List("i")
	for range 2 {
		for i := range 2500 {
			casts = append(casts, sample.Cast("?", "i", int64(1+i), sample.Cast("i", "?", int64(9000-i), sample.Num(1)))...)
		}
	}
	casts[0].Kids = 5000
	c = good(t, casts)
	if len(c.Casts) != 2501 {
		t.Fatalf("P19.2: %d casts", len(c.Casts))
	}
	for i := range 5000 {
		if a := c.Functions[0].Code[3*i+2].A; a != 1+i%2500 || c.Casts[a].Co[0].Proj != int64(1+i%2500) {
			t.Fatalf("P19.2: the cast %d has the place %d", i, a)
		}
	}
}
