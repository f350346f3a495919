package core_test

import (
	"slices"
	"strings"
	"testing"

	"culprit/api"
	"culprit/core"
)

// freeVar answers the first Var of a list that no binder in it binds, -1 if there is none: the part is closed.
func freeVar(l []api.Node) int {
	var from func(at, around int) (free, end int)
	from = func(at, around int) (free, end int) {
		n := l[at]
		if n.Kind == api.Var && n.N >= int64(around) {
			return at, at + 1
		}
		free, end = -1, at+1
		for i := range n.Kids {
			inner := around
			switch {
			case n.Kind == api.Fn, n.Kind == api.Let && i == 1:
				inner++
			case n.Kind == api.Rec:
				inner += 2
			}
			var below int
			if below, end = from(end, inner); below >= 0 && free < 0 {
				free = below
			}
		}
		return free, end
	}
	free, _ := from(0, 0)
	return free
}

// What follows: each part that is closed may be checked by itself; one that is not is refused by itself at what is free.
func TestPartsByThemselves(t *testing.T) {
	takes(t, "Let(Num 1, Pair(Fn i i (Var 0), Var 0))", ",>iii")
	takes(t, "Fn i i (Var 0)", ">ii")
	refuses(t, "Pair(Fn i i (Var 0), Var 0)", api.ErrUnbound, 3)

	g := maker{dice: 31}
	m := newModel()
	closed, open := 0, 0
	for range 2000 {
		l, _ := g.dealt()
		m.judge(l)
		for at := range l {
			part := slices.Clone(l[at:m.ends[at]])
			if free := freeVar(part); free >= 0 {
				wantRefused(t, part, api.ErrUnbound, free)
				open++
				continue
			}
			wantType(t, part, m.types[at])
			closed++
		}
	}
	if closed < 20000 || open < 1000 {
		t.Errorf("too few parts: %d closed, %d open", closed, open)
	}
}

// What follows: in the place of a part any other closed one of its type leaves the whole's type.
func TestPartsInEachOthersPlace(t *testing.T) {
	takes(t, "Call(Fn ? ? (Var 0), Cast i ? 1 (Num 1))", "?")
	takes(t, "Call(Fn ? ? (Var 0), Cast b ? 2 (Truth 1))", "?")
	takes(t, "Call(Cast ? >?? 3 (Cast i ? 4 (Num 1)), Cast b ? 2 (Truth 1))", "?")
	refuses(t, "Call(Fn ? ? (Var 0), Num 1)", api.ErrType, 0)

	g := maker{dice: 32}
	m := newModel()
	seen := 0
	for range 2000 {
		l, whole := g.dealt()
		m.judge(l)
		for at := range l {
			ahead, behind := l[:at], l[m.ends[at]:]
			for _, other := range [][]api.Node{witness(m.types[at]), g.part(m.types[at], nil, 1+g.below(3))} {
				wantType(t, slices.Concat(ahead, other, behind), whole)
				seen++
			}
		}
	}
	if seen < 40000 {
		t.Errorf("too few parts: %d", seen)
	}
}

// What follows: a term has just one type: one of another type in a place where the type is asked for is refused there.
func TestJustOneType(t *testing.T) {
	g := maker{dice: 33}
	for range 2000 {
		l, whole := g.dealt()
		wantType(t, cast(whole, whole, 1, l), whole)
		other := g.typ(5)
		if other != whole {
			wantRefused(t, cast(other, other, 1, l), api.ErrType, 0)
		}
		if len(whole) < 63 {
			wantType(t, node(api.Node{Kind: api.List, T: whole}, l, l), "l"+whole)
		}
	}
}

// What follows: without casts, and with annotations that are all static, no part's type has a ?.
func TestStaticTerms(t *testing.T) {
	g := maker{dice: 34, static: true}
	m := newModel()
	seen := 0
	for range 3000 {
		l, _ := g.dealt()
		if casts, e := core.Casts(l); len(casts) != 0 || e != api.OK || slices.ContainsFunc(l, hasUnknown) {
			t.Fatalf("the tests' own maker made casts, or a ?: %s", told(l))
		}
		m.judge(l)
		for at := range l {
			// Below binders of the types that stand around it each part is closed.
			part := under(m.envs[at], l[at:m.ends[at]])
			got := given(part)
			if got.e != api.OK || got.t != m.types[at] || strings.Contains(got.t, "?") {
				t.Fatalf("what follows: the part at %d of %s: %+v", at, told(l), got)
			}
			seen++
		}
	}
	if seen < 20000 {
		t.Errorf("too few parts: %d", seen)
	}
}

func hasUnknown(n api.Node) bool { return strings.Contains(n.T+n.U, "?") }

// Of every short term without a cast that checks, whose annotations are static.
func TestEveryShortStaticTerm(t *testing.T) {
	var nodes []api.Node
	for _, n := range someNodes() {
		if n.Kind != api.Cast && !hasUnknown(n) {
			nodes = append(nodes, n)
		}
	}
	nodes = append(nodes, api.Node{Kind: api.Fn, Kids: 1, T: "i", U: ",ii"}, api.Node{Kind: api.Rec, Kids: 1, T: "i", U: "xi"}, api.Node{Kind: api.List, Kids: 2, T: "t"})
	seen := 0
	for size := 1; size <= 4; size++ {
		eachTree(nodes, size, func(l []api.Node) {
			got := given(l)
			if got.e != api.OK {
				return
			}
			seen++
			if strings.Contains(got.t, "?") {
				t.Fatalf("what follows: %s is of %s", told(l), got.t)
			}
		})
	}
	if seen < 500 {
		t.Errorf("too few terms: %d", seen)
	}
	// Each of the two is needed.
	takes(t, "Cast i ? 1 (Num 1)", "?")
	takes(t, "List ? ()", "l?")
	takes(t, "Fn ? i (Num 1)", ">?i")
	takes(t, "Second(Pair(Num 1, Head(List ? ())))", "?")
}

// R5: the lists that are handed in stay as they were, their spare room too; R6: nothing is kept from one call to the next.
func TestTermsStayAsTheyWere(t *testing.T) {
	g := maker{dice: 35}
	for range 500 {
		l, whole := g.dealt()
		ahead, behind := witness("?"), witness(",bt")
		room := slices.Concat(ahead, l, behind)
		before := slices.Clone(room)
		part := room[len(ahead) : len(ahead)+len(l)]
		wantType(t, part, whole)
		core.Casts(part)
		for range 3 {
			from := g.below(len(room))
			some := room[from : from+g.below(len(room)-from)+1]
			first := given(some)
			core.Casts(some)
			if again := given(some); first != again {
				t.Fatalf("R6: Check(%s) = %+v, then %+v", told(some), first, again)
			}
		}
		if !slices.Equal(room, before) {
			t.Fatalf("R5: a list is changed: %s", told(before))
		}
	}
}

// R5: answers are new memory, spare room too, and do not hang on what was handed in.
func TestAnswersAreNew(t *testing.T) {
	l := term("Pair(Cast i ? 4 (Num 1), Pair(Cast t ? 5 (Str a), Cast b ? 6 (Truth 1)))")
	want := []core.Laid{{Label: 4, From: "i", To: "?"}, {Label: 5, From: "t", To: "?"}, {Label: 6, From: "b", To: "?"}}
	one, _ := core.Casts(l)
	other, _ := core.Casts(l)
	clear(one[:cap(one)])
	if !slices.Equal(other, want) {
		t.Errorf("R5: two answers share memory: %v", other)
	}
	wantCasts(t, l, want...)
	clear(l)
	if !slices.Equal(other, want) {
		t.Errorf("R5: an answer hangs on its argument: %v", other)
	}
}

// R1: whatever is handed in, each call ends with one of the errors that the chapter names, or a type.
func TestAnyNodes(t *testing.T) {
	var d dice = 36
	texts := []string{"", "i", "?", ">ii", "z", "\xff", long(64), long(65), ",i?"}
	errors := []api.Errno{api.OK, api.ErrLong, api.ErrNumber, api.ErrDeep, api.ErrMany, api.ErrTree, api.ErrShape, api.ErrLarge, api.ErrUnbound, api.ErrType}
	m := newModel()
	for range 100000 {
		var l []api.Node
		for range d.below(7) {
			n := api.Node{Kind: int8(d.below(34) - 1), Kids: d.below(5) - 1, N: int64(d.below(5) - 1), S: d.one(texts...), T: d.one(texts...), U: d.one(texts...)}
			if asked, known := m.lines[n.Kind]; known && d.below(8) > 0 {
				n.Kids = len(asked.kids)
			}
			l = append(l, n)
		}
		v := wantAsModel(t, m, l)
		if !slices.Contains(errors, v.e) || v.e != api.OK && v.t != "" || v.e == api.OK && (v.node != 0 || !isType(v.t)) {
			t.Fatalf("P10.1: Check(%s) = %+v", told(l), v)
		}
	}
}
