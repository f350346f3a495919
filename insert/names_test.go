package insert_test

import (
	"slices"
	"strconv"
	"testing"

	"culprit/api"
)

// Each Fn and Let on the way counts one, each Rec two.
func TestDistances(t *testing.T) {
	wantTerm(t, "fn (x : int) : int => x", "", "Fn(i,i) Var0", ">ii", "")
	wantTerm(t, "fn (x : int) : int -> int => fn (y : int) : int => x", "", "Fn(i,>ii) Fn(i,i) Var1", ">i>ii", "")
	wantTerm(t, "fn (x : int) : int -> int => fn (y : int) : int => y", "", "Fn(i,>ii) Fn(i,i) Var0", ">i>ii", "")
	wantTerm(t, "fn (x : int) : int -> int => fn (x : int) : int => x", "", "Fn(i,>ii) Fn(i,i) Var0", ">i>ii", "")
	wantTerm(t, "let x : int = 1 in let y : int = 2 in (x, y)", "", "Let(i) Num1 Let(i) Num2 Pair Var1 Var0", ",ii", "")
	wantTerm(t, "let x : int = 1 in let x : text = \"a\" in x", "", "Let(i) Num1 Let(t) Stra Var0", "t", "")
	wantTerm(t, "rec f (n : int) : int => f(n)", "", "Rec(i,i) Call Var1 Var0", ">ii", "")
	wantTerm(t, "rec f (f : int) : int => f", "", "Rec(i,i) Var0", ">ii", "")
	wantTerm(t, "rec f (n : int) : int -> int => rec g (m : int) : int => f(n)(g(m))", "", "Rec(i,>ii) Rec(i,i) Call Call Var3 Var2 Call Var1 Var0", ">i>ii", "")
	wantTerm(t, "fn (x : int) : int -> int => rec f (n : int) : int => x", "", "Fn(i,>ii) Rec(i,i) Var2", ">i>ii", "")
	wantTerm(t, "rec f (n : int) : int => let x : int = n in f(x)", "", "Rec(i,i) Let(i) Var0 Call Var2 Var0", ">ii", "")
}

// What a Let is bound to stands outside it.
func TestDistancesInLets(t *testing.T) {
	wantTerm(t, "let x : int = x in x", "x i", "Let(i) Var0 Var0", "i", "")
	wantTerm(t, "let y : int = x in x", "x i", "Let(i) Var0 Var1", "i", "")
	wantTerm(t, "let x : int = (let x : int = x in x) in x", "x i", "Let(i) Let(i) Var0 Var0 Var0", "i", "")
	wantTerm(t, "let x : int = (let y : int = x in x) in let z : int = x in x", "x i", "Let(i) Let(i) Var0 Var1 Let(i) Var0 Var1", "i", "")
	wantTerm(t, "fn (x : int) : int => let y : int = x in let x : int = y in x + y", "", "Fn(i,i) Let(i) Var0 Let(i) Var0 Add Var0 Var1", ">ii", "")
}

// Behind all binders stand the environment's names, the last one the nearest.
func TestDistancesToTheEnvironment(t *testing.T) {
	env := "x i y i z i"
	wantTerm(t, "x", env, "Var2", "i", "")
	wantTerm(t, "y", env, "Var1", "i", "")
	wantTerm(t, "z", env, "Var0", "i", "")
	wantTerm(t, "fn (a : int) : int => x", env, "Fn(i,i) Var3", ">ii", "")
	wantTerm(t, "fn (z : int) : int => z + y", env, "Fn(i,i) Add Var0 Var2", ">ii", "")
	wantTerm(t, "rec f (a : int) : int => z", env, "Rec(i,i) Var2", ">ii", "")
	wantTerm(t, "let a : int = z in z + x", env, "Let(i) Var0 Add Var1 Var3", "i", "")
	wantTerm(t, "x", "x t y b x i", "Var0", "i", "")
	wantTerm(t, "x", "x t x i y b", "Var1", "i", "")
	wantTerm(t, "x", "x t x i x b y i", "Var1", "b", "")
	wantTerm(t, "fn (y : int) : bool => x", "x t x b y i", "Fn(i,b) Var2", ">ib", "")
}

// What is bound in a kid is not bound in the next one, however the names around them were kept.
func TestKidsDoNotShareNames(t *testing.T) {
	wantTerm(t, "(fn (x : int) : int => x, x)", "x t", "Pair Fn(i,i) Var0 Var0", ",>iit", "")
	wantTerm(t, "fn (a : int) : (int -> int, int -> int) => (fn (b : int) : int => a + b, fn (c : int) : int => a + c)", "",
		"Fn(i,,>ii>ii) Pair Fn(i,i) Add Var1 Var0 Fn(i,i) Add Var1 Var0", ">i,>ii>ii", "")
	wantTerm(t, "fn (a : int) : [int] => [let b : int = 1 in let c : int = 2 in a + b + c, let c : int = 3 in c + a, a]", "",
		"Fn(i,li) List3(i) Let(i) Num1 Let(i) Num2 Add Add Var2 Var1 Var0 Let(i) Num3 Add Var0 Var1 Var0", ">ili", "")
	wantTerm(t, "fn (a : int) : ? => (rec f (b) => (f, fn (c) => (b, c)), fn (d) => (a, fn (e) => (d, e)))", "",
		"Fn(i,?) [,>??>?? ? 5] Pair Rec(?,?) [,>??>?? ? 2] Pair Var1 Fn(?,?) [,?? ? 1] Pair Var1 Var0 Fn(?,?) [,i>?? ? 4] Pair Var1 Fn(?,?) [,?? ? 3] Pair Var1 Var0", ">i?",
		"1@6 1@3 1@13 1@10 1@1")
}

// Binders as deep as may be: each name is found where it is bound nearest.
func TestDeepBinders(t *testing.T) {
	for kind, counts := range map[int8]int{api.Fn: 1, api.Rec: 2} {
		var binders []api.Node
		for i := range 63 {
			n := api.Node{Kind: kind, Kids: 1, S: "x" + strconv.Itoa(i%31)}
			if kind == api.Rec {
				n.S = "f" + strconv.Itoa(i%31) + " " + n.S
			}
			binders = append(binders, n)
		}
		distance := func(s string) int64 {
			l := append(slices.Clone(binders), name(s))
			got := given("m", l, environment("x0 b y t z i f0 i"))
			if got.e != api.OK || len(got.term) == 0 {
				t.Fatalf("P11.1: %s below binders of kind %d: %v", s, kind, got)
			}
			return got.term[len(got.term)-1].N
		}
		for i := range 31 {
			last := i + 31 // the binder that is nearest
			if i == 0 {
				last = 62
			}
			if got := distance("x" + strconv.Itoa(i)); got != int64((62-last)*counts) {
				t.Errorf("P11.1: x%d below binders of kind %d is %d off", i, kind, got)
			}
			if kind != api.Rec {
				continue
			}
			if got := distance("f" + strconv.Itoa(i)); got != int64((62-last)*counts)+1 {
				t.Errorf("P11.1: f%d below binders of kind %d is %d off", i, kind, got)
			}
		}
		for i, s := range []string{"z", "y"} {
			if got := distance(s); got != int64(63*counts+1+i) {
				t.Errorf("P11.1: %s below binders of kind %d is %d off", s, kind, got)
			}
		}
	}
}

// Every name of an environment is found, however many there are, below however many binders, and of those that are alike the last one.
func TestManyNames(t *testing.T) {
	const many = 1 << 18
	env := make([]bound, many)
	for i := range env {
		env[i] = bound{"n" + strconv.Itoa(i%(many/2)), "i"}
	}
	l, want := []api.Node{{Kind: api.List, Kids: 1023}}, []int64{}
	for i := range 1023 {
		k := (i*131 + 1) % (many / 2)
		l = append(l, api.Node{Kind: api.Let, Kids: 2, S: "own", T: "i"}, num(1), api.Node{Kind: api.As, Kids: 1, T: "?"}, name(env[k].name))
		want = append(want, int64(many/2-k)) // one more than to the last one of this name
	}
	got := given("m", placed(l), env)
	var far []int64
	for _, n := range got.term {
		if n.Kind == api.Var {
			far = append(far, n.N)
		}
	}
	if got.e != api.OK || got.t != "l?" || !slices.Equal(far, want) || len(got.sites) != 1023 {
		t.Errorf("P11.1: names of a large environment: %d at %d, %s, %s", got.e, got.node, got.t, shown(far))
	}
}
