package insert_test

import (
	"slices"
	"strings"
	"testing"

	"culprit/api"
	"culprit/check"
	"culprit/core"
	"culprit/insert"
	"culprit/relate"
)

// under: a term below Lets that bind what stands in its environment, so that no name of it is free.
func under(env []bound, term []api.Node) []api.Node {
	var binders []api.Node
	for _, b := range env {
		binders = append(binders, api.Node{Kind: api.Let, Kids: 2}, api.Node{Kind: api.Cast, Kids: 1, N: 1, T: "?", U: b.t}, api.Node{Kind: api.Cast, Kids: 1, N: 1, T: "i", U: "?"}, num(1))
	}
	return slices.Concat(binders, term)
}

// wantChecks: the term checks, and its type is the tree's.
func wantChecks(t *testing.T, l []api.Node, env []bound, a answer) {
	t.Helper()
	names, types := apart(env)
	all, _, _ := check.Expr(l, names, types)
	typ, e, node := core.Check(under(env, a.term))
	if e != api.OK || node != 0 || typ != a.t || len(all) == 0 || a.t != all[0] {
		t.Fatalf("what follows: the term %s of %s in %v checks as %s, %d at %d; told %s", shown(told(a.term)), shown(told(l)), env, typ, e, node, a.t)
	}
}

// The term checks by itself where the environment has no names; where it has some, they are free.
func TestTermsCheck(t *testing.T) {
	g := maker{dice: 5, closed: true}
	for range 1000 {
		l, _, asked := g.dealt()
		a := given("m", l, nil)
		if typ, e, node := core.Check(a.term); typ != asked || e != api.OK || node != 0 {
			t.Fatalf("what follows: the term of %s checks as %s, %d at %d; want %s", shown(told(l)), typ, e, node, asked)
		}
		laid, e := core.Casts(a.term)
		if e != api.OK || len(laid) != len(a.sites) {
			t.Fatalf("what follows: the term of %s has the casts %v, %d; sites %v", shown(told(l)), laid, e, a.sites)
		}
	}
	a := given("m", source(t, "fn (y) => x"), environment("x ?"))
	if _, e, node := core.Check(a.term); e != api.ErrUnbound || node != 1 {
		t.Errorf("P11.1: a name of the environment is bound: %v, %d at %d", a, e, node)
	}
}

// Without casts at all a tree differs from its term by nothing but names: these are told by distances.
func TestCastsAside(t *testing.T) {
	l := source(t, "fn (x : int) : int => ((x : ?) : int) + (2 : int)")
	a := given("m", l, nil)
	want := []api.Node{{Kind: api.Fn, Kids: 1, T: "i", U: "i", At: placeOf(0)}, {Kind: api.Add, Kids: 2, At: placeOf(1)}, {Kind: api.Var, At: placeOf(4)}, {Kind: api.Num, N: 2, At: placeOf(6)}}
	if !slices.Equal(bare(a.term), want) {
		t.Errorf("what follows: casts aside %s is %+v", told(l), bare(a.term))
	}
	if told(a.term) != "Fn(i,i) Add [? i 2] [i ? 1] Var0 Num2" {
		t.Errorf("P11.1: %v", a)
	}
}

func wantNoCast(t *testing.T, l []api.Node, env []bound) bool {
	t.Helper()
	a := given("m", l, env)
	if a.e != api.OK {
		return false
	}
	if len(a.sites) != 0 || !slices.Equal(a.term, bare(a.term)) {
		t.Fatalf("what follows: %s in %v has nothing unknown, but casts: %v", shown(told(l)), env, a)
	}
	return true
}

// What has no ? has no cast.
func TestStaticTreesHaveNoCasts(t *testing.T) {
	var nodes []api.Node
	for _, n := range someNodes() {
		unknown := strings.Contains(n.T+n.U, "?") || n.Kind == api.List && n.Kids == 0
		switch n.Kind {
		case api.Fn, api.Rec:
			unknown = unknown || n.T == "" || n.U == ""
		case api.Let:
			unknown = unknown || n.T == ""
		}
		if !unknown {
			nodes = append(nodes, n)
		}
	}
	nodes = append(nodes, api.Node{Kind: api.As, Kids: 1, T: "i"}, api.Node{Kind: api.Fn, Kids: 1, S: "x", T: "t", U: "i"}, api.Node{Kind: api.Rec, Kids: 1, S: "x y", T: "i", U: "t"})
	taken := 0
	for size := 1; size <= 4; size++ {
		eachTree(nodes, size, func(l []api.Node) {
			for _, x := range []string{"i", ">it", ",it", "li", "xt"} {
				if wantNoCast(t, l, []bound{{"x", x}, {"y", "li"}}) {
					taken++
				}
			}
		})
	}
	g := maker{dice: 6, static: true}
	for range 2000 {
		l, env, _ := g.dealt()
		if strings.Contains(told(l), "List0") {
			t.Fatalf("the tests' own maker made a list of none: %s", told(l))
		}
		if wantNoCast(t, l, env) {
			taken++
		}
	}
	t.Logf("%d trees", taken)
	if taken < 5000 {
		t.Errorf("too few trees: %d", taken)
	}
}

// Each thing by itself that is excepted may bring a cast: a ? written, one absent, a list of none, one in the environment.
func TestWhatBringsACast(t *testing.T) {
	for _, c := range []struct{ src, env string }{
		{"fn (x : int) : ? => x", ""},
		{"fn (x : int) => x", ""},
		{"let x : [int] = [] in x", ""},
		{"let f : int -> int = g in f", "g >??"},
		{"x + 1", "x ?"},
	} {
		if a := given("m", source(t, c.src), environment(c.env)); a.e != api.OK || len(a.sites) != 1 {
			t.Errorf("P11.1: %q in %q: %v", c.src, c.env, a)
		}
	}
}

// Each cast goes from a type to another one that is consistent with it. (wantLabels asks it of every other term of the tests.)
func TestCastsAreConsistent(t *testing.T) {
	g := maker{dice: 9}
	seen := 0
	for range 1500 {
		l, env, _ := g.dealt()
		for _, n := range given("m", l, env).term {
			if n.Kind != api.Cast {
				continue
			}
			seen++
			if n.T == n.U || !consistent(n.T, n.U) || len(n.T) > api.MaxType || len(n.U) > api.MaxType {
				t.Fatalf("what follows: %s has a cast from %s to %s", shown(told(l)), n.T, n.U)
			}
		}
	}
	if seen < 5000 {
		t.Errorf("too few casts: %d", seen)
	}
}

// spot: where a cast may stand: ahead of which node, by which rule. (The tests' trees have each node at a place of its own; of an As the place is its own.)
type spot struct {
	at   api.Place
	rule int
}

// between tells of each cast of an answer from which type it goes to which.
func between(a answer) map[spot][2]string {
	all := map[spot][2]string{}
	for _, n := range a.term {
		if n.Kind == api.Cast {
			s := a.sites[n.N-1]
			all[spot{s.At, s.Rule}] = [2]string{n.T, n.U}
		}
	}
	return all
}

// unlaid answers the type that stands where no cast is laid: from it to itself nothing is cast.
func unlaid(types []string, s spot) [2]string {
	node := s.at.Line - 1
	if s.rule == 16 {
		node++ // the kid of the As
	}
	return [2]string{types[node], types[node]}
}

// wantLooser: the types between which casts go became less precise, or stayed, where a cast left or came, too.
func wantLooser(t *testing.T, before, after []api.Node, envBefore, envAfter []bound) (left, came int) {
	t.Helper()
	a, b := given("m", before, envBefore), given("m", after, envAfter)
	if a.e != api.OK || b.e != api.OK {
		t.Fatalf("what follows: made less precise, %s becomes %s: %d, then %d at %d", shown(told(before)), shown(told(after)), a.e, b.e, b.node)
	}
	names, types := apart(envBefore)
	typesBefore, _, _ := check.Expr(before, names, types)
	names, types = apart(envAfter)
	typesAfter, _, _ := check.Expr(after, names, types)
	castsBefore, castsAfter := between(a), between(b)
	ask := func(s spot, precise, loose [2]string) {
		if !atLeast(precise[0], loose[0]) || !atLeast(precise[1], loose[1]) {
			t.Fatalf("what follows: made less precise, the cast at %v of %s goes from %s to %s, not from %s to %s, in %s", s, shown(told(before)), loose[0], loose[1], precise[0], precise[1], shown(told(after)))
		}
	}
	for s, precise := range castsBefore {
		loose, ok := castsAfter[s]
		if !ok {
			left++
			loose = unlaid(typesAfter, s)
		}
		ask(s, precise, loose)
	}
	for s, loose := range castsAfter {
		if _, ok := castsBefore[s]; !ok {
			came++
			ask(s, unlaid(typesBefore, s), loose)
		}
	}
	return left, came
}

// loosened makes many things less precise at once.
func (g *maker) loosened(l []api.Node, env []bound) ([]api.Node, []bound) {
	l, env = slices.Clone(l), slices.Clone(env)
	for i, n := range l {
		if n.T != "" && g.below(3) == 0 {
			l[i].T = g.looser(n.T)
		}
		if n.T != "" && n.Kind != api.As && g.below(6) == 0 {
			l[i].T = ""
		}
		if n.U != "" && g.below(3) == 0 {
			l[i].U = g.one("", g.looser(n.U))
		}
	}
	for i, b := range env {
		env[i].t = g.looser(b.t)
	}
	return l, env
}

func TestLessPreciseByHand(t *testing.T) {
	wantTerm(t, "fn (f : int -> int) : int => f(1)", "", "Fn(>ii,i) Call Var0 Num1", ">>iii", "")
	wantTerm(t, "fn (f : ? -> int) : int => f(1)", "", "Fn(>?i,i) Call Var0 [i ? 1] Num1", ">>?ii", "4@3")
	wantTerm(t, "fn (f : ? -> int) => f(1)", "", "Fn(>?i,?) [i ? 2] Call Var0 [i ? 1] Num1", ">>?i?", "4@3 1@1")
	wantTerm(t, "fn (f) => f(1)", "", "Fn(?,?) Call [? >?? 1] Var0 [i ? 2] Num1", ">??", "3@2 4@3")
	wantTerm(t, "let x : int = (y : ?) in x", "y i", "Let(i) [? i 2] [i ? 1] Var0 Var0", "i", "16@1 2@1")
	wantTerm(t, "let x = (y : ?) in x", "y i", "Let(?) [i ? 1] Var0 Var0", "?", "16@1")
}

func TestLessPrecise(t *testing.T) {
	g := maker{dice: 21}
	left, came := 0, 0
	for range 1500 {
		g.static = g.coin()
		l, env, _ := g.dealt()
		g.static = false
		for range 4 { // ever less, one behind another
			looser, env2 := g.loosened(l, env)
			gone, fresh := wantLooser(t, l, looser, env, env2)
			left, came = left+gone, came+fresh
			l, env = looser, env2
		}
		for i, n := range l { // and each thing by itself
			for _, s := range relate.Looser(n.T) {
				looser := slices.Clone(l)
				looser[i].T = s
				gone, fresh := wantLooser(t, l, looser, env, env)
				left, came = left+gone, came+fresh
			}
		}
	}
	t.Logf("%d casts left, %d came", left, came)
	if left < 200 || came < 1000 {
		t.Errorf("too few casts left or came: %d, %d", left, came)
	}
}

// R5: what is handed in stays as it is, its spare room too; answers are new.
func TestArgumentsStayAndAnswersAreNew(t *testing.T) {
	whole := source(t, "fn (x : int) => let y = x in (y + z, [y, 1])")
	room := slices.Concat(whole, source(t, "true"), source(t, "q"))
	names, types := []string{"z", "a", "let", "q"}, []string{"?", "?", "none", "i"}
	roomBefore, namesBefore, typesBefore := slices.Clone(room), slices.Clone(names), slices.Clone(types)
	l := room[:len(whole)]
	one, _, sites, e, _ := insert.Expr("m", l, names[:2], types[:2])
	other, _, otherSites, _, _ := insert.Expr("m", l, names[:2], types[:2])
	wantTerm, wantSites := slices.Clone(one), slices.Clone(sites)
	if e != api.OK || len(sites) < 3 {
		t.Fatalf("the test's own tree is refused, or has too few casts: %d, %v", e, sites)
	}
	for n := range len(room) + 1 {
		insert.Expr("m", room[:n], names[:n%4], types[:n%3])
		insert.Expr("m", room[:n], names[:2], types[:2])
	}
	if !slices.Equal(room, roomBefore) || !slices.Equal(names, namesBefore) || !slices.Equal(types, typesBefore) {
		t.Errorf("R5: an argument is changed: %v, %q, %q", room, names, types)
	}
	clear(one[:cap(one)])
	clear(sites[:cap(sites)])
	if !slices.Equal(other, wantTerm) || !slices.Equal(otherSites, wantSites) || !slices.Equal(room, roomBefore) {
		t.Errorf("R5: answers share memory: %v, %v", other, otherSites)
	}
	clear(types)
	clear(names)
	clear(room)
	if !slices.Equal(other, wantTerm) || !slices.Equal(otherSites, wantSites) {
		t.Errorf("R5: an answer shares memory with an argument: %v, %v", other, otherSites)
	}
}

// A term that is the tree itself, node by node, is new memory too.
func TestTermsWithoutCastsAreNew(t *testing.T) {
	for _, src := range []string{"1", "true", "[1, 2]", "(1 : int)", "(\"a\", (2 : int))", "-1"} {
		l := source(t, src)
		before := slices.Clone(l)
		a := given("m", l, nil)
		want := slices.Clone(a.term)
		clear(a.term[:cap(a.term)])
		if !slices.Equal(l, before) {
			t.Errorf("R5: the term of %q is its tree", src)
		}
		if b := given("m", l, nil); !slices.Equal(b.term, want) {
			t.Errorf("R6: the term of %q is another one the second time: %v", src, b)
		}
	}
}

// R4: a list that is nil and one without elements are the same.
func TestEmptyEnvironments(t *testing.T) {
	l := source(t, "let x = 1 in x")
	term, typ, sites, e, node := insert.Expr("m", l, []string{}, []string{})
	a, b := given("m", l, nil), answer{term, typ, sites, e, node}
	if !a.equals(b) || a.e != api.OK {
		t.Errorf("R4: %v; %v", a, b)
	}
}
