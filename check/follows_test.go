package check_test

import (
	"slices"
	"strings"
	"testing"

	"culprit/api"
	tested "culprit/check"
	"culprit/relate"
	trees "culprit/tree"
)

// atLeast: is s at least as precise as t? Then it is what the two know between them.
func atLeast(s, t string) bool {
	both, _, _, ok := together(s, t)
	return ok && both == s
}

// looserOnes answers what an annotation may be instead: each step looser, ?, and absent where it may be.
func looserOnes(n api.Node, t string) []string {
	all := relate.Looser(t)
	if t != "" {
		all = append(all, "?")
	}
	if n.Kind != api.As {
		all = append(all, "")
	}
	return all
}

// eachLooser visits a tree and its environment with one thing less known.
func eachLooser(l []api.Node, env []bound, visit func(l []api.Node, env []bound)) {
	for i, n := range l {
		for _, field := range []func(n *api.Node) *string{func(n *api.Node) *string { return &n.T }, func(n *api.Node) *string { return &n.U }} {
			t := *field(&n)
			if t == "" {
				continue
			}
			for _, looser := range looserOnes(n, t) {
				changed := slices.Clone(l)
				*field(&changed[i]) = looser
				visit(changed, env)
			}
		}
	}
	for i, b := range env {
		for _, looser := range append(relate.Looser(b.t), "?") {
			changed := slices.Clone(env)
			changed[i].t = looser
			visit(l, changed)
		}
	}
}

// loosened makes many things less precise at once.
func (g *maker) loosened(l []api.Node, env []bound) ([]api.Node, []bound) {
	l, env = slices.Clone(l), slices.Clone(env)
	for i, n := range l {
		if n.T != "" && g.coin() {
			l[i].T = g.looser(n.T)
		}
		if n.T != "" && n.Kind != api.As && g.below(4) == 0 {
			l[i].T = ""
		}
		if n.U != "" && g.coin() {
			l[i].U = g.one("", g.looser(n.U))
		}
	}
	for i, b := range env {
		env[i].t = g.looser(b.t)
	}
	return l, env
}

func wantLooser(t *testing.T, l []api.Node, env []bound, before []string) {
	t.Helper()
	after := given(l, env)
	if after.e != api.OK {
		t.Fatalf("W2: less precise, %s in %s is refused: %d at %d", written(l), shown(env), after.e, after.at)
	}
	for i, s := range before {
		if !atLeast(s, after.types[i]) {
			t.Fatalf("W2: less precise, %s in %s has at %d the type %s, not less precise than %s", written(l), shown(env), i, after.types[i], s)
		}
	}
}

func TestStaticGuaranteeByHand(t *testing.T) {
	wantTypes(t, "fn (f : int -> int) : int => f(1)", "", ">>iii i >ii i")
	wantTypes(t, "fn (f : int -> ?) : int => f(1)", "", ">>i?i ? >i? i")
	wantTypes(t, "fn (f : ? -> int) : ? => f(1)", "", ">>?i? i >?i i")
	wantTypes(t, "fn (f) => f(1)", "", ">?? ? ? i")
	wantTypes(t, "if x then (1 : ?) else y", "x ? y ?", "? ? ? i ?")
	wantTypes(t, "let x : int = 1 in let y : int = x in x + y", "", "i i i i i i i")
	wantTypes(t, "let x = 1 in let y : int = x in x + y", "", "i i i ? i ? i")
	wantTypes(t, "let x = true in let y : int = x in x + y", "", "i b i ? i ? i")
}

// Of every short tree that is taken: each thing that it knows made less precise by itself.
func TestStaticGuaranteeOfEveryShortTree(t *testing.T) {
	nodes := someNodes()
	for i := range nodes { // the more is written, the more can be taken away
		switch nodes[i].Kind {
		case api.Fn, api.Rec:
			nodes[i].T = absent(nodes[i].T)
		}
	}
	seen := 0
	for size := 1; size <= 3; size++ {
		eachTree(nodes, size, func(l []api.Node) {
			for _, x := range []string{"i", "t", "b", ">i>ti", ",i,bt", "lli", "xxt", "?", "l?"} {
				env := []bound{{"x", x}, {"y", ">ii"}}
				before := given(l, env)
				if before.e != api.OK {
					continue
				}
				eachLooser(l, env, func(l []api.Node, env []bound) {
					seen++
					wantLooser(t, l, env, before.types)
				})
			}
		})
	}
	t.Logf("%d trees", seen)
	if seen < 10000 {
		t.Errorf("too few trees: %d", seen)
	}
}

func TestStaticGuaranteeOfDealtTrees(t *testing.T) {
	g := maker{dice: 3}
	for range 1000 {
		g.static = g.coin()
		l, env, _ := g.dealt()
		before := given(l, env)
		if before.e != api.OK {
			continue
		}
		g.static = false
		if len(l) < 30 {
			eachLooser(l, env, func(l []api.Node, env []bound) { wantLooser(t, l, env, before.types) })
		}
		for range 4 { // ever less, one behind another
			l, env = g.loosened(l, env)
			wantLooser(t, l, env, before.types)
		}
	}
}

// A tree of nothing that is unknown is taken just by the plain rules.
func wantPlain(t *testing.T, m *model, l []api.Node, env []bound) verdict {
	t.Helper()
	want, got := m.judge(l, env), given(l, env)
	if (got.e == api.OK) != (want.e == api.OK) || !slices.Equal(got.types, want.types) {
		t.Fatalf("without ?: Expr(%s) in %s = %s; by the plain rules %s", written(l), shown(env), shown(got), shown(want))
	}
	return want
}

func TestStaticTrees(t *testing.T) {
	m := newModel(same)
	var nodes []api.Node
	for _, n := range someNodes() {
		unknown := strings.Contains(n.T+n.U, "?") || n.Kind == api.List && n.Kids == 0
		switch n.Kind {
		case api.Fn, api.Rec:
			unknown = unknown || n.T == "" || n.U == ""
		case api.Let:
			unknown = unknown || n.T == ""
		}
		if !unknown {
			nodes = append(nodes, n)
		}
	}
	nodes = append(nodes, api.Node{Kind: api.As, Kids: 1, T: "i"}, api.Node{Kind: api.Fn, Kids: 1, S: "x", T: "t", U: "i"}, api.Node{Kind: api.Rec, Kids: 1, S: "x y", T: "i", U: "t"})
	taken, refused := 0, 0
	tally := func(v verdict) {
		if v.e == api.OK {
			taken++
		} else {
			refused++
		}
	}
	for size := 1; size <= 4; size++ {
		eachTree(nodes, size, func(l []api.Node) {
			for _, x := range []string{"i", "t", ">it", ",it", "li", "xt"} {
				tally(wantPlain(t, m, l, []bound{{"x", x}, {"y", "li"}}))
			}
		})
	}
	g := maker{dice: 5, static: true}
	for range 3000 {
		l, env, asked := g.dealt()
		v := wantPlain(t, m, l, env)
		tally(v)
		if v.e == api.OK && v.types[0] != asked {
			t.Fatalf("the tests' own maker made a %s, not a %s: %s", v.types[0], asked, written(l))
		}
		for range 3 {
			l = g.spoilt(l)
			tally(wantPlain(t, m, l, env))
		}
	}
	t.Logf("%d taken, %d refused", taken, refused)
	if taken < 5000 || refused < 5000 {
		t.Errorf("too few kinds of trees: %d taken, %d refused", taken, refused)
	}
}

// Every part by itself, in the environment at it, has the types that it has in the whole.
func TestPartsByThemselves(t *testing.T) {
	g := maker{dice: 7}
	m := newModel(consistent)
	seen := 0
	for range 1500 {
		l, env, _ := g.dealt()
		whole := given(l, env)
		m.judge(l, env)
		if whole.e != api.OK {
			continue
		}
		for at := range l {
			end := trees.Behind(l, at)
			part := given(l[at:end], m.envs[at])
			if part.e != api.OK || !slices.Equal(part.types, whole.types[at:end]) {
				t.Fatalf("the part at %d of %s in %s: %s; in the whole %q", at, written(l), shown(env), shown(part), whole.types[at:end])
			}
			seen++
		}
	}
	if seen < 20000 {
		t.Errorf("too few parts: %d", seen)
	}
}

// R5: what is handed in stays as it is, its spare room too; answers are new.
func TestArgumentsStayAndAnswersAreNew(t *testing.T) {
	room := slices.Concat(source(t, "fn (x : int) => let y = x in y + z"), source(t, "true"), source(t, "q"))
	names, types := []string{"z", "a", "let"}, []string{"i", "?", "none"}
	roomBefore, namesBefore, typesBefore := slices.Clone(room), slices.Clone(names), slices.Clone(types)
	l := room[:6]
	one, e, at := tested.Expr(l, names[:2], types[:2])
	other, _, _ := tested.Expr(l, names[:2], types[:2])
	want := strings.Fields(">i? i i i ? i")
	if !slices.Equal(one, want) || e != api.OK || at != 0 {
		t.Errorf("P8.1: %q, %d, %d", one, e, at)
	}
	for n := range len(room) + 1 {
		tested.Expr(room[:n], names[:n%4], types[:n%3])
	}
	if !slices.Equal(room, roomBefore) || !slices.Equal(names, namesBefore) || !slices.Equal(types, typesBefore) {
		t.Errorf("R5: an argument is changed: %v, %q, %q", room, names, types)
	}
	clear(one[:cap(one)])
	if !slices.Equal(other, want) || !slices.Equal(types, typesBefore) {
		t.Errorf("R5: answers share memory: %q, %q", other, types)
	}
	clear(types)
	clear(names)
	clear(room)
	if !slices.Equal(other, want) {
		t.Errorf("R5: an answer shares memory with an argument: %q", other)
	}
}

// Places in a source are not looked at.
func TestPlacesAreNotLookedAt(t *testing.T) {
	l := source(t, "if x then [1] else []")
	for i := range l {
		l[i].At = api.Place{Line: -i, Col: 1 << 40}
	}
	wantTree(t, l, "x ?", "li ? li i l?")
}
