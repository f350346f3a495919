package insert_test

import (
	"slices"
	"strings"
	"testing"

	"culprit/api"
	"culprit/core"
)

// As many nodes as a tree may have, with as many casts as they may have.
func TestLimitOfNodes(t *testing.T) {
	m := newModel()
	full := append([]api.Node{{Kind: api.List, Kids: 4095}}, slices.Repeat([]api.Node{name("x")}, 4095)...)
	full[4095] = num(1)
	a := wantAsModel(t, m, placed(full), environment("x ?"))
	if a.e != api.OK || len(a.term) != 4096+4094 || len(a.sites) != 4094 || a.t != "li" {
		t.Errorf("P11.1: a list of 4095: %d at %d, %d nodes, %d sites", a.e, a.node, len(a.term), len(a.sites))
	}
	wantSound(t, "m", placed(full), environment("x ?"), a)

	// Chains as deep as may be, side by side: a cast ahead of each node but the list's and its kids'.
	chain := append(slices.Repeat([]api.Node{{Kind: api.First, Kids: 1}}, 62), name("x"))
	l := append([]api.Node{{Kind: api.List, Kids: 65}}, slices.Repeat(chain, 65)...)
	a = wantAsModel(t, m, placed(l), environment("x ?"))
	if len(l) != 4096 || a.e != api.OK || len(a.term) != 4096+65*62 || len(a.sites) != 65*62 {
		t.Errorf("P11.1: %d nodes: %d at %d, %d nodes, %d sites", len(l), a.e, a.node, len(a.term), len(a.sites))
	}
	wantSound(t, "m", placed(l), environment("x ?"), a)

	l = append(l, name("x"))
	wantRefused(t, "m", l, environment("x ?"), api.ErrMany, 0)
}

func TestLimitOfDepth(t *testing.T) {
	m := newModel()
	deep := append(slices.Repeat([]api.Node{{Kind: api.First, Kids: 1}}, 63), name("x"))
	a := wantAsModel(t, m, placed(deep), environment("x ?"))
	if a.e != api.OK || len(a.term) != 64+63 || len(a.sites) != 63 {
		t.Errorf("P11.1: 63 Firsts: %v", a)
	}
	for i, s := range a.sites { // the deepest one has the first label
		if s.At != placeOf(63-i) {
			t.Errorf("P11.1: the label %d of 63 Firsts is at %v", i+1, s.At)
		}
	}
	wantSound(t, "m", placed(deep), environment("x ?"), a)
	wantRefused(t, "m", append([]api.Node{{Kind: api.First, Kids: 1}}, deep...), environment("x ?"), api.ErrDeep, 64)

	// As aside nothing is left but a number, with all casts one around the other.
	var as []api.Node
	for i := range 63 {
		as = append(as, api.Node{Kind: api.As, Kids: 1, T: []string{"?", "b"}[i%2]})
	}
	as[62].T = "?"
	as = placed(append(as, num(5)))
	a = wantAsModel(t, m, as, nil)
	if a.e != api.OK || len(a.term) != 64 || a.term[63] != (api.Node{Kind: api.Num, N: 5, At: placeOf(63)}) || a.term[0].N != 63 {
		t.Errorf("P11.1: 63 As: %v", a)
	}
	wantSound(t, "m", as, nil, a)
}

// Types of as many letters as may be are cast as any others.
func TestLimitOfLetters(t *testing.T) {
	wantTree(t, placed(tree(api.Node{Kind: api.As, T: long(64)}, []api.Node{name("x")})), "x ?", "[? "+long(64)+" 1] Var0", long(64), "16@0")
	wantTree(t, placed(of(api.Call, []api.Node{name("f")}, []api.Node{name("x")})), "f ? x "+long(64), "Call [? >?? 1] Var1 ["+long(64)+" ? 2] Var0", "?", "3@1 4@2")
	wantTree(t, placed(of(api.List, []api.Node{name("x")}, []api.Node{name("y")})), "x "+long(63)+" y ?", "List2("+long(63)+") Var1 [? "+long(63)+" 1] Var0", long(64), "13@2")
	wantTree(t, placed(of(api.Cons, []api.Node{name("y")}, []api.Node{name("x")})), "x "+long(64)+" y ?", "Cons [? "+long(63)+" 1] Var0 Var1", long(64), "14@1")
	left, right := ",?"+long(32), ","+long(31)+"?"
	both := "," + long(31) + long(32)
	wantTree(t, placed(of(api.If, []api.Node{name("c")}, []api.Node{name("x")}, []api.Node{name("y")})), "c b x "+left+" y "+right,
		"If Var2 ["+left+" "+both+" 1] Var1 ["+right+" "+both+" 2] Var0", both, "6@2 7@3")
	n := api.Node{Kind: api.Rec, S: "f x", T: long(31), U: long(32)}
	wantTree(t, placed(tree(n, []api.Node{name("y")})), "y ?", "Rec("+long(31)+","+long(32)+") [? "+long(32)+" 1] Var2", ">"+long(31)+long(32), "1@1")
	n = api.Node{Kind: api.Let, S: "y", T: long(64)}
	wantTree(t, placed(tree(n, []api.Node{name("x")}, []api.Node{name("y")})), "x ?", "Let("+long(64)+") [? "+long(64)+" 1] Var0 Var0", long(64), "2@1")
	n.T = "?"
	wantTree(t, placed(tree(n, []api.Node{name("x")}, []api.Node{name("y")})), "x "+long(64), "Let(?) ["+long(64)+" ? 1] Var0 Var0", "?", "2@1")
}

// Numbers, texts and names as large as may be go over as they are.
func TestLiteralsAtTheirLimits(t *testing.T) {
	most := api.Node{Kind: api.Num, N: 1<<63 - 1}
	longest := api.Node{Kind: api.Str, S: strings.Repeat("\n~ \"", 16)}
	wantTree(t, placed(of(api.Pair, []api.Node{most}, []api.Node{longest})), "", "Pair Num9223372036854775807 Str"+longest.S, ",it", "")
	called := strings.Repeat("n", 32)
	l := placed(tree(api.Node{Kind: api.Rec, S: called + " " + called[:31] + "m"}, of(api.Call, []api.Node{name(called)}, []api.Node{name(called[:31] + "m")})))
	wantTree(t, l, "", "Rec(?,?) Call Var1 Var0", ">??", "")
}

// A term is never too large, nor too deep, for chapter 10.
func TestTermsAreNotTooLarge(t *testing.T) {
	chain := append(slices.Repeat([]api.Node{{Kind: api.Head, Kids: 1}}, 61), api.Node{Kind: api.As, Kids: 1, T: "?"}, num(1))
	l := []api.Node{{Kind: api.List, Kids: 65}}
	for range 65 {
		l = append(l, chain...)
	}
	l = placed(l)
	a := given("m", l, nil)
	typ, e, node := core.Check(a.term)
	if a.e != api.OK || len(l) != 4096 || typ != "l?" || e != api.OK || node != 0 {
		t.Errorf("what follows: a large tree's term: %d at %d; checked: %s, %d at %d", a.e, a.node, typ, e, node)
	}
}
