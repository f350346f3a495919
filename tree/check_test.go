package tree_test

import (
	"math"
	"slices"
	"strings"
	"testing"

	"culprit/api"
	tested "culprit/tree"
)

func wantCheck(t *testing.T, l []api.Node, e api.Errno, at int) {
	t.Helper()
	if gotE, gotAt := tested.Check(l); gotE != e || gotAt != at {
		t.Errorf("P5.1: Check(%s) = %d, %d; want %d, %d", shown(l), gotE, gotAt, e, at)
	}
}

func TestCheckOfTheTable(t *testing.T) {
	wantCheck(t, tree(with(api.Add), num(1), name("x")), api.OK, 0)
	wantCheck(t, nil, api.ErrMany, 0)
	wantCheck(t, []api.Node{}, api.ErrMany, 0)
	wantCheck(t, tree(with(api.Add), num(1)), api.ErrTree, 2)
	wantCheck(t, tree(num(1), num(2)), api.ErrTree, 1)
	wantCheck(t, tree(with(api.Neg), num(-1)), api.ErrTree, 1)
	wantCheck(t, tree(name("let")), api.ErrTree, 0)
	wantCheck(t, tree(with(api.As), num(1)), api.ErrTree, 0)
	wantCheck(t, tree(api.Node{Kind: api.Cast}), api.ErrTree, 0)
	wantCheck(t, tree(api.Node{Kind: api.Cast, Kids: 1, T: "i", U: "?", N: 1}, num(1)), api.ErrTree, 0)
	wantCheck(t, tree(api.Node{Kind: api.Num, N: 1, S: "x"}), api.ErrTree, 0)
	wantCheck(t, tree(api.Node{Kind: api.Fn, Kids: 1, S: "x", T: ">i"}, name("x")), api.ErrTree, 0)
	wantCheck(t, nested(63), api.OK, 0)
	wantCheck(t, nested(64), api.ErrDeep, 64)
}

// nested: as many Negs, and a Num.
func nested(negs int) []api.Node {
	return append(slices.Repeat(tree(with(api.Neg)), negs), num(0))
}

// underOther: as many Nums behind a node as it has kids, if it has some few.
func underOther(n api.Node) []api.Node {
	l := tree(n)
	for range min(max(n.Kids, 0), 8) {
		l = append(l, num(0))
	}
	return l
}

// Every field of every kind, by itself and beside every other one, as it may be and as it may not.
func TestCheckOfEveryNode(t *testing.T) {
	kinds := []int8{math.MinInt8, -1, math.MaxInt8}
	for k := range int8(33) {
		kinds = append(kinds, k)
	}
	texts := sayings()
	annotations := slices.DeleteFunc(sayings(), func(s said) bool { return !slices.Contains([]string{"", "i", "x", "?", ">i", "f x"}, s.s) })
	noText, oneName, twoNames := texts[0], texts[1], texts[8]
	for _, kind := range kinds {
		for kids := -1; kids <= 4; kids++ {
			for _, n := range []int64{math.MinInt64, -1, 0, 1, 2, math.MaxInt64} {
				for _, s := range texts {
					for _, u := range annotations {
						for _, v := range annotations {
							wantNode(t, kind, kids, n, s, u, v)
						}
					}
				}
			}
			for _, s := range texts {
				for _, u := range texts {
					wantNode(t, kind, kids, 0, oneName, s, u)
					wantNode(t, kind, kids, 0, twoNames, s, u)
					wantNode(t, kind, kids, 0, noText, s, u)
				}
			}
		}
	}
}

func wantNode(t *testing.T, kind int8, kids int, n int64, s, u, v said) {
	t.Helper()
	l := underOther(api.Node{Kind: kind, Kids: kids, N: n, S: s.s, T: u.s, U: v.s})
	if may(kind, kids, n, s, u, v) {
		wantCheck(t, l, api.OK, 0)
		return
	}
	wantCheck(t, l, api.ErrTree, 0)
}

// A Str's bytes and a name's, one by one.
func TestCheckOfEveryByte(t *testing.T) {
	for b := range 256 {
		s := string([]byte{byte(b)})
		e := api.ErrTree
		if b == 10 || 32 <= b && b <= 126 {
			e = api.OK
		}
		wantCheck(t, tree(api.Node{Kind: api.Str, S: s}), e, 0)
		wantCheck(t, tree(api.Node{Kind: api.Str, S: "a" + s + "b"}), e, 0)
		e = api.ErrTree
		if 'a' <= b && b <= 'z' || 'A' <= b && b <= 'Z' || '0' <= b && b <= '9' || b == '_' {
			e = api.OK
		}
		wantCheck(t, tree(name("a"+s)), e, 0)
		wantCheck(t, tree(rec("g x"+s), num(0)), e, 0)
		wantCheck(t, tree(rec("g"+s+" x"), num(0)), e, 0)
		e = api.ErrTree
		if b == ' ' { // no other byte stands between two names
			e = api.OK
		}
		wantCheck(t, tree(rec("g"+s+"x"), num(0)), e, 0)
	}
}

func TestCheckNeverLooksAtPlaces(t *testing.T) {
	for _, at := range []api.Place{{}, {Line: 1, Col: 1}, {Line: -7, Col: math.MaxInt}, {Line: math.MinInt}} {
		l := tree(api.Node{Kind: api.Fn, Kids: 1, S: "x", At: at}, api.Node{Kind: api.Var, S: "x", At: at})
		wantCheck(t, l, api.OK, 0)
		l[1].N = 1
		wantCheck(t, l, api.ErrTree, 1)
	}
}

// checkByWords goes by the promise: the first node that may not be, or one too many, or the list's end; then the first one that lies too deep.
func checkByWords(l []api.Node, mayBe func(api.Node) bool) (api.Errno, int) {
	if len(l) == 0 || len(l) > api.MaxNodes {
		return api.ErrMany, 0
	}
	end, ok := endOf(l, 0)
	for i := range end {
		if !mayBe(l[i]) {
			return api.ErrTree, i
		}
	}
	if !ok || end < len(l) { // at a node that may not be, or that is one too many, or at the end
		return api.ErrTree, end
	}
	for i, depth := range depths(l) {
		if depth > api.MaxNest {
			return api.ErrDeep, i
		}
	}
	return api.OK, 0
}

func TestCheckOfEveryShortList(t *testing.T) {
	bad := func(n api.Node) bool { return n.N < 0 || n.Kids < 0 || n.Kind == api.Neg && n.Kids != 1 }
	some := tree(num(0), num(-1), with(api.Neg), api.Node{Kind: api.Neg, Kids: 2}, with(api.Add), list(0), list(1), list(3), list(-1), list(math.MaxInt))
	eachList(some, 5, func(l []api.Node) {
		e, at := checkByWords(l, func(n api.Node) bool { return !bad(n) })
		wantCheck(t, l, e, at)
	})
}

func TestCheckOfManyTrees(t *testing.T) {
	var d dice = 11
	seen, longest := map[int8]int{}, 0
	for range 3000 {
		l := d.grown(1+d.below(200), api.MaxNest)
		wantCheck(t, l, api.OK, 0)
		longest = max(longest, len(l))
		for _, n := range l {
			seen[n.Kind]++
		}
		spoilt := slices.Clone(l)
		at := d.below(len(l))
		switch d.below(6) {
		case 0:
			spoilt[at].Kind = []int8{0, -1, api.Cast, 31}[d.below(4)]
		case 1:
			spoilt[at].N = -1
		case 2:
			spoilt[at].S = "no name "
			if spoilt[at].Kind == api.Str {
				spoilt[at].S = "\t"
			}
		case 3:
			spoilt[at].T = "ii"
		case 4:
			spoilt[at].U = "ii"
		case 5:
			spoilt[at].Kids = -1
		}
		wantCheck(t, spoilt, api.ErrTree, at)
		wantCheck(t, l[:at], []api.Errno{api.ErrMany, api.ErrTree}[min(at, 1)], at)
		wantCheck(t, append(slices.Clone(l), l...), api.ErrTree, len(l))
	}
	for kind := range int8(29) {
		if seen[kind+1] < 100 || longest < 150 {
			t.Errorf("too few kinds of trees were dealt: %v, %d", seen, longest)
		}
	}
}

func TestCheckLimitOfNodes(t *testing.T) {
	full := append(tree(list(4095)), slices.Repeat(tree(num(7)), 4095)...)
	wantCheck(t, full, api.OK, 0)
	wantCheck(t, append(tree(list(4096)), full[1:]...), api.ErrTree, 4096)
	wantCheck(t, append(tree(list(4094)), full[1:]...), api.ErrTree, 4095)
	more := append(tree(list(4096)), slices.Repeat(tree(num(7)), 4096)...)
	wantCheck(t, more, api.ErrMany, 0)
	wantCheck(t, more[:4096], api.ErrTree, 4096)
	more[0].Kind = 0 // ahead of all else
	wantCheck(t, more, api.ErrMany, 0)
	wantCheck(t, nested(4095), api.ErrDeep, 64)
	wantCheck(t, nested(4096), api.ErrMany, 0)
}

func TestCheckLimitOfDepth(t *testing.T) {
	wantCheck(t, append(tree(with(api.Pair), num(1)), nested(62)...), api.OK, 0)
	wantCheck(t, append(tree(with(api.Pair), num(1)), nested(63)...), api.ErrDeep, 65)
	twice := append(tree(with(api.Pair)), append(nested(62), nested(62)...)...)
	wantCheck(t, twice, api.OK, 0)
	wantCheck(t, append(tree(with(api.Pair)), append(nested(63), nested(70)...)...), api.ErrDeep, 64)
	wantCheck(t, append(tree(with(api.Pair)), append(nested(62), nested(70)...)...), api.ErrDeep, 64+63)
	wantCheck(t, append(slices.Repeat(tree(list(1)), 64), list(0)), api.ErrDeep, 64)
	wantCheck(t, append(slices.Repeat(tree(list(1)), 63), list(0)), api.OK, 0)

	// A fault of the list stands ahead of its depth, wherever it is.
	deep := nested(100)
	deep[100].N = -1
	wantCheck(t, deep, api.ErrTree, 100)
	wantCheck(t, append(nested(100), num(1)), api.ErrTree, 101)
	wantCheck(t, nested(100)[:100], api.ErrTree, 100)
}

// More kids than any list has, and so many such nodes that their sum goes round.
func TestCheckOfHugeKids(t *testing.T) {
	for _, kids := range []int{4096, 1 << 32, math.MaxInt - 1, math.MaxInt} {
		for _, n := range []int{1, 2, 3, 4, 60} {
			l := slices.Repeat(tree(list(kids)), n)
			wantCheck(t, l, api.ErrTree, n)
			wantCheck(t, append(l, num(1)), api.ErrTree, n+1)
			wantCheck(t, append(l, num(1), num(-1), num(1)), api.ErrTree, n+1)
		}
	}
	for _, kids := range []int{-1, -2, math.MinInt} {
		wantCheck(t, tree(list(kids)), api.ErrTree, 0)
		wantCheck(t, tree(with(api.Add), num(1), list(kids)), api.ErrTree, 2)
	}
}

// R1, R5: whatever it is given, a call ends, and leaves it as it is.
func TestCheckLeavesTheListAlone(t *testing.T) {
	room := slices.Repeat(tree(api.Node{Kind: api.Rec, Kids: 1, S: "f x", T: "i", U: "?", At: api.Place{Line: 3, Col: 4}}, name("x"), api.Node{Kind: 99, N: 9}), 3)
	before := slices.Clone(room)
	for n := range len(room) {
		tested.Check(room[:n])
		tested.Behind(room[:n], 0)
		tested.Kids(room[:n], 0)
		tested.Deep(room[:n])
		tested.Equal(room[:n], room[:2])
		tested.Free(room[:n])
		tested.Modules([]api.Module{{Name: "m", Defs: []api.Def{{Name: "x", Tree: room[:n]}}}})
	}
	if !slices.Equal(room, before) {
		t.Errorf("R5: the list is changed: %v", room)
	}
}

func TestLongTextsAreRefused(t *testing.T) {
	for _, s := range []string{strings.Repeat("a", 1<<20), strings.Repeat(" ", 1<<20), strings.Repeat("a ", 1<<16)} {
		for _, kind := range []int8{api.Str, api.Var, api.Fn, api.Rec, api.Let} {
			n := with(kind)
			n.S = s
			wantCheck(t, underOther(n), api.ErrTree, 0)
			n.S, n.T = "x", s
			wantCheck(t, underOther(n), api.ErrTree, 0)
		}
	}
}
