package core_test

import (
	"math"
	"slices"
	"strings"
	"testing"

	"culprit/api"
)

func TestNoNode(t *testing.T) {
	wantRefused(t, nil, api.ErrTree, 0)
	wantRefused(t, []api.Node{}, api.ErrTree, 0)
	wantRefused(t, num(1)[:0], api.ErrTree, 0)
}

// wide: a List of so many Nums.
func wide(kids int) []api.Node {
	return append([]api.Node{{Kind: api.List, Kids: kids, T: "i"}}, slices.Repeat(num(1), kids)...)
}

func TestLimitOfNodes(t *testing.T) {
	const most = 1<<14 - 1
	wantType(t, wide(most), "li")
	wantRefused(t, wide(most+1), api.ErrMany, 0)
	wantType(t, of(api.Empty, wide(most-1)), "b")
	wantRefused(t, of(api.Empty, wide(most)), api.ErrMany, 0)

	full := wide(most)
	full[most] = api.Node{Kind: api.Truth}
	wantRefused(t, full, api.ErrType, 0)
	full[most] = api.Node{Kind: api.Var}
	wantRefused(t, full, api.ErrUnbound, most)
	full[most] = api.Node{Kind: api.As}
	wantRefused(t, full, api.ErrTree, most)
	full[most] = api.Node{Kind: api.Neg, Kids: 1}
	wantRefused(t, full, api.ErrTree, most+1)
	full[0].Kids = most + 1
	full[most] = api.Node{Kind: api.Num}
	wantRefused(t, full, api.ErrTree, most+1)
	full[0].Kids = most - 1
	wantRefused(t, full, api.ErrTree, most)
}

// binary: Adds, one in the other, so that the list is as long as may be, and no part of it deep.
func binary(depth int) []api.Node {
	if depth == 1 {
		return num(1)
	}
	return of(api.Add, binary(depth-1), binary(depth-1))
}

func TestLimitOfNodesOfATree(t *testing.T) {
	l := binary(14)
	wantType(t, l, "i")
	wantType(t, of(api.Neg, l), "i")
	wantRefused(t, of(api.Neg, of(api.Neg, l)), api.ErrMany, 0)
	l[len(l)-1].Kind = api.Truth
	wantRefused(t, l, api.ErrType, len(l)-3)
}

func TestLimitOfDepth(t *testing.T) {
	wantType(t, nested(1023, num(1)), "i")
	wantRefused(t, nested(1024, num(1)), api.ErrDeep, 1024)
	wantRefused(t, nested(1<<14-1, num(1)), api.ErrDeep, 1024)
	wantType(t, of(api.Pair, nested(1022, num(1)), nested(1022, num(1))), ",ii")
	wantRefused(t, of(api.Pair, nested(1022, num(1)), nested(1023, num(1))), api.ErrDeep, 2*1024-1)
	wantRefused(t, of(api.Pair, nested(1023, num(1)), nested(1023, num(1))), api.ErrDeep, 1024)
	wantType(t, node(api.Node{Kind: api.List, T: "i"}, nested(1022, num(1)), num(1), nested(1022, num(1)), num(1)), "li")
	// What lies beside does not count.
	wantType(t, of(api.Add, nested(1000, num(1)), of(api.Add, nested(1000, num(1)), nested(1021, num(1)))), "i")
	wantRefused(t, of(api.Add, nested(1000, num(1)), of(api.Add, nested(1000, num(1)), nested(1022, num(1)))), api.ErrDeep, 1+1001+1+1001+1022)

	left, right := num(1), num(1)
	for range 1023 {
		left, right = of(api.Add, left, num(1)), of(api.Add, num(1), right)
	}
	wantType(t, left, "i")
	wantType(t, right, "i")
	wantRefused(t, of(api.Add, left, num(1)), api.ErrDeep, 1024)
	wantRefused(t, of(api.Add, num(1), right), api.ErrDeep, 2*1024-1)
}

// Every kind counts as one on the way, casts too.
func TestDepthThroughEveryKind(t *testing.T) {
	for _, wrapped := range []string{
		"Add(Num 1, +)", "Sub(+, Num 1)", "Mul(Num 1, +)", "Neg(+)", "Let(Num 1, +)", "Let(+, Num 1)", "If(Truth 1, +, Num 1)", "If(Truth 1, Num 1, +)",
		"Cast i i 1 (+)", "Call(Fn i i (+), Num 1)", "Call(Rec i i (+), Num 1)", "Call(Fn i i (Var 0), +)", "First(Pair(+, Num 1))", "Second(Pair(Num 1, +))",
		"Head(List i (+))", "Head(List i (Num 1, +))", "Head(Tail(List i (+)))", "Head(Cons(+, List i ()))", "Get(Box(+))", "Set(Box(Num 1), +)", "Set(Box(+), Num 1)",
		"Size(If(Eq(+, Num 1), Str a, Str b))", "Size(If(Less(Num 1, +), Str a, Str b))", "Size(Join(Str a, If(Empty(List i (+)), Str a, Str b)))",
	} {
		around := term(strings.Replace(wrapped, "+", "Num 12345", 1))
		hole := slices.IndexFunc(around, func(n api.Node) bool { return n.N == 12345 })
		l := num(1)
		for range 900 / depthsOf(around)[hole] {
			l = slices.Concat(around[:hole], l, around[hole+1:])
		}
		deepest := slices.Max(depthsOf(l))
		wantType(t, nested(1024-deepest, l), "i")
		deeper := nested(1025-deepest, l)
		wantRefused(t, deeper, api.ErrDeep, slices.Index(depthsOf(deeper), 1025))
	}
}

func TestLimitOfTexts(t *testing.T) {
	for _, letter := range []string{"a", "\x00", "\xff", "\n", "\"", " "} {
		for _, bytes := range []int{0, 1, 63, 64} {
			wantType(t, []api.Node{{Kind: api.Str, S: strings.Repeat(letter, bytes)}}, "t")
		}
		for _, bytes := range []int{65, 66, 128, 1 << 16} {
			wantRefused(t, []api.Node{{Kind: api.Str, S: strings.Repeat(letter, bytes)}}, api.ErrLong, 0)
		}
	}
	// Bytes count, not letters.
	wantType(t, []api.Node{{Kind: api.Str, S: strings.Repeat("é", 32)}}, "t")
	wantRefused(t, []api.Node{{Kind: api.Str, S: strings.Repeat("é", 33)}}, api.ErrLong, 0)
	wantRefused(t, of(api.Size, []api.Node{{Kind: api.Str, S: long(65)}}), api.ErrLong, 1)
}

func TestNumbers(t *testing.T) {
	for _, n := range []int64{0, 1, -1, 2, math.MaxInt64, math.MinInt64, 1 << 31, -1 << 31} {
		wantType(t, num(n), "i")
	}
}

func TestTruths(t *testing.T) {
	wantType(t, []api.Node{{Kind: api.Truth, N: 0}}, "b")
	wantType(t, []api.Node{{Kind: api.Truth, N: 1}}, "b")
	for _, n := range []int64{2, 3, -1, -2, 256, 257, 1 << 32, 1<<32 + 1, math.MaxInt64, math.MinInt64, math.MinInt64 + 1} {
		wantRefused(t, []api.Node{{Kind: api.Truth, N: n}}, api.ErrNumber, 0)
		wantRefused(t, of(api.Box, []api.Node{{Kind: api.Truth, N: n}}), api.ErrNumber, 1)
	}
}

func TestLabels(t *testing.T) {
	for _, label := range []int64{1, 2, 1 << 14, 1<<31 - 2, 1<<31 - 1} {
		wantType(t, cast("i", "?", label, num(1)), "?")
	}
	for _, label := range []int64{0, -1, -2, 1 << 31, 1<<31 + 1, 1 << 32, 1<<32 + 1, -1 << 31, -1<<32 + 1, math.MaxInt64, math.MinInt64, math.MinInt64 + 1} {
		wantRefused(t, cast("i", "?", label, num(1)), api.ErrNumber, 0)
		wantRefused(t, cast("?", "?", 1, cast("i", "?", label, num(1))), api.ErrNumber, 1)
	}
}

// bind puts a binder around a term of i, and leaves it a term of i; nearest: what it binds, the nearest one first.
func bind(kind int8, t string, body []api.Node) (l []api.Node, nearest []string) {
	switch kind {
	case api.Let:
		return of(api.Let, witness(t), body), []string{t}
	case api.Fn:
		nearest = []string{t}
	case api.Rec:
		nearest = []string{t, ">" + t + "i"}
	}
	return of(api.Call, node(api.Node{Kind: kind, T: t, U: "i"}, body), witness(t)), nearest
}

// askVar: a term of i, if the Var is just of this type; else ErrType at the node 2.
func askVar(distance int64, t string) []api.Node {
	return of(api.Second, of(api.Pair, cast(t, "?", 1, name(distance)), num(1)))
}

// Of every way to bind up to three times, at every distance.
func TestDistances(t *testing.T) {
	far := []int64{math.MinInt64, math.MinInt64 + 1, -1 << 32, -1<<32 + 1, -2, -1, 1 << 31, 1 << 32, 1<<32 + 1, math.MaxInt64}
	var each func(kinds []int8)
	each = func(kinds []int8) {
		put := func(body []api.Node) (l []api.Node, nearest []string) {
			l = body
			for i, kind := range kinds {
				var more []string
				l, more = bind(kind, []string{"b", "l?", "x>it"}[i], l)
				nearest = append(nearest, more...)
			}
			return l, nearest
		}
		_, nearest := put(num(1))
		for distance, at := range nearest {
			for _, other := range append(nearest, "?", "i", "t") {
				l, _ := put(askVar(int64(distance), other))
				if other == at {
					wantType(t, l, "i")
				} else {
					wantRefused(t, l, api.ErrType, slices.IndexFunc(l, func(n api.Node) bool { return n.Kind == api.Second })+2)
				}
			}
		}
		for _, distance := range append(far, int64(len(nearest)), int64(len(nearest))+1) {
			l, _ := put(askVar(distance, "i"))
			wantRefused(t, l, api.ErrUnbound, slices.IndexFunc(l, func(n api.Node) bool { return n.Kind == api.Second })+3)
		}
		if len(kinds) < 3 {
			for _, kind := range []int8{api.Let, api.Fn, api.Rec} {
				each(append(slices.Clone(kinds), kind))
			}
		}
	}
	each(nil)
}

// Binders as deep as may be: each is found at its distance.
func TestDistancesBelowManyBinders(t *testing.T) {
	var lets []api.Node
	for i := range 1023 {
		lets = append(lets, api.Node{Kind: api.Let, Kids: 2}, api.Node{Kind: api.List, T: long(1 + i%60)})
	}
	for i := range 1023 {
		wantType(t, append(slices.Clone(lets), name(int64(1022-i))...), "l"+long(1+i%60))
	}
	wantRefused(t, append(slices.Clone(lets), name(1023)...), api.ErrUnbound, 2*1023)
	wantRefused(t, append(slices.Clone(lets), name(-1)...), api.ErrUnbound, 2*1023)

	recs, bound := askVar(0, "b"), 0
	for range 300 {
		var more []string
		recs, more = bind(api.Rec, "b", recs)
		bound += len(more)
	}
	at := slices.IndexFunc(recs, func(n api.Node) bool { return n.Kind == api.Cast })
	for distance := range bound {
		recs[at].T, recs[at+1].N = []string{"b", ">bi"}[distance%2], int64(distance)
		wantType(t, recs, "i")
		recs[at].T = []string{">bi", "b"}[distance%2]
		wantRefused(t, recs, api.ErrType, at)
	}
	recs[at+1].N = 600
	wantRefused(t, recs, api.ErrUnbound, at+1)
}

// Types of MaxType letters, and one more: a text of 65 letters is no type; one that would come about is too large.
func TestLimitOfTypesThatAreWritten(t *testing.T) {
	for _, whole := range []string{long(64), strings.Repeat("x", 63) + "?", ">" + long(31) + long(32), "," + long(62) + "?"} {
		wantType(t, cast("?", whole, 1, witness("?")), whole)
		wantType(t, cast(whole, "?", 1, witness(whole)), "?")
		wantType(t, cast(whole, whole, 1, witness(whole)), whole)
		for _, more := range []string{"l" + whole, whole + "i"} {
			wantRefused(t, cast("?", more, 1, witness("?")), api.ErrShape, 0)
			wantRefused(t, cast(more, "?", 1, witness(whole)), api.ErrShape, 0)
			wantRefused(t, []api.Node{{Kind: api.List, T: more}}, api.ErrShape, 0)
			for _, kind := range []int8{api.Fn, api.Rec} {
				wantRefused(t, node(api.Node{Kind: kind, T: more, U: "i"}, num(1)), api.ErrShape, 0)
				wantRefused(t, node(api.Node{Kind: kind, T: "i", U: more}, num(1)), api.ErrShape, 0)
				wantRefused(t, node(api.Node{Kind: kind, T: more, U: more}, num(1)), api.ErrShape, 0)
			}
		}
	}
}

func TestLimitOfFunctions(t *testing.T) {
	for _, kind := range []int8{api.Fn, api.Rec} {
		for _, c := range []struct{ from, to int }{{62, 1}, {1, 62}, {31, 32}, {32, 31}} {
			from, to := long(c.from), long(c.to)
			wantType(t, node(api.Node{Kind: kind, T: from, U: to}, witness(to)), ">"+from+to)
			wantRefused(t, node(api.Node{Kind: kind, T: from, U: to}, witness("b")), api.ErrType, 0)
			wantRefused(t, node(api.Node{Kind: kind, T: from, U: "l" + to}, witness("l"+to)), api.ErrLarge, 0)
			wantRefused(t, node(api.Node{Kind: kind, T: "x" + from, U: to}, witness(to)), api.ErrLarge, 0)
			wantRefused(t, node(api.Node{Kind: kind, T: "x" + from, U: to}, name(9)), api.ErrLarge, 0)
		}
		wantRefused(t, node(api.Node{Kind: kind, T: long(64), U: long(64)}, witness(long(64))), api.ErrLarge, 0)
	}
	// Rec's own type has as many letters as may be, where it is bound.
	wantType(t, node(api.Node{Kind: api.Rec, T: long(31), U: long(32)}, of(api.Call, name(1), name(0))), ">"+long(31)+long(32))
}

func TestLimitOfTypesThatArePutTogether(t *testing.T) {
	wantType(t, of(api.Pair, witness(long(31)), witness(long(32))), ","+long(31)+long(32))
	wantRefused(t, of(api.Pair, witness(long(32)), witness(long(32))), api.ErrLarge, 0)
	wantType(t, of(api.Pair, num(1), witness(long(62))), ",i"+long(62))
	wantRefused(t, of(api.Pair, num(1), witness(long(63))), api.ErrLarge, 0)
	wantRefused(t, of(api.Pair, witness(long(63)), num(1)), api.ErrLarge, 0)
	wantRefused(t, of(api.Pair, witness(long(64)), witness(long(64))), api.ErrLarge, 0)
	wantType(t, of(api.Box, witness(long(63))), "x"+long(63))
	wantRefused(t, of(api.Box, witness(long(64))), api.ErrLarge, 0)
	wantType(t, []api.Node{{Kind: api.List, T: long(63)}}, long(64))
	wantRefused(t, []api.Node{{Kind: api.List, T: long(64)}}, api.ErrLarge, 0)
	wantType(t, node(api.Node{Kind: api.List, T: long(63)}, witness(long(63))), long(64))
	wantRefused(t, node(api.Node{Kind: api.List, T: long(64)}, witness(long(64))), api.ErrLarge, 0)
	// What is there already is never too large.
	whole := witness(long(64))
	wantType(t, of(api.Cons, witness(long(63)), whole), long(64))
	wantType(t, of(api.Tail, whole), long(64))
	wantType(t, of(api.Head, whole), long(63))
	wantType(t, of(api.Empty, whole), "b")
	wantType(t, of(api.If, witness("b"), whole, whole), long(64))
	wantType(t, of(api.Let, whole, name(0)), long(64))
	wantType(t, of(api.Set, of(api.Box, witness(long(63))), witness(long(63))), long(63))
	wantType(t, of(api.Get, of(api.Box, witness(long(63)))), long(63))
	wantType(t, of(api.Second, of(api.Pair, num(1), witness(long(62)))), long(62))
	wantType(t, of(api.Call, witness(">i"+long(62)), num(1)), long(62))
	wantType(t, of(api.Let, whole, of(api.Let, whole, of(api.Cons, of(api.Head, name(1)), name(0)))), long(64))
}

func TestListsAndTheirKids(t *testing.T) {
	wantType(t, []api.Node{{Kind: api.List, T: "i"}}, "li")
	for _, kids := range []int{-1, -2, math.MinInt, -1 << 32} {
		wantRefused(t, []api.Node{{Kind: api.List, Kids: kids, T: "i"}}, api.ErrTree, 0)
		wantRefused(t, append([]api.Node{{Kind: api.List, Kids: kids, T: "i"}}, num(1)...), api.ErrTree, 0)
		wantRefused(t, of(api.Head, []api.Node{{Kind: api.List, Kids: kids, T: "i"}}), api.ErrTree, 1)
	}
	for _, kids := range []int{4, 5, 1 << 14, 1 << 31, 1 << 32, math.MaxInt} {
		wantRefused(t, append([]api.Node{{Kind: api.List, Kids: kids, T: "i"}}, slices.Repeat(num(1), 3)...), api.ErrTree, 4)
	}
	for kids := range 60 {
		wantType(t, wide(kids), "li")
	}
}

// Every number of kids, of every kind.
func TestKindsAndTheirKids(t *testing.T) {
	asked := map[int8]string{
		api.Num: "", api.Str: "", api.Truth: "", api.Var: "", api.Fn: "i", api.Rec: "i", api.Call: "F i", api.Let: "i i", api.If: "b i i",
		api.Add: "i i", api.Sub: "i i", api.Mul: "i i", api.Join: "t t", api.Eq: "i i", api.Less: "i i", api.Neg: "i", api.Size: "t",
		api.Pair: "i i", api.First: ",ii", api.Second: ",ii", api.Head: "li", api.Tail: "li", api.Empty: "li", api.Cons: "i li",
		api.Box: "i", api.Get: "xi", api.Set: "xi i", api.Cast: "i",
	}
	for kind := math.MinInt8; kind <= math.MaxInt8; kind++ {
		kids, known := asked[int8(kind)]
		for n := -2; n <= 6; n++ {
			l := []api.Node{{Kind: int8(kind), Kids: n, T: "i", U: "i", N: 1}}
			for i := range max(n, 0) {
				if all := strings.Fields(strings.ReplaceAll(kids, "F", ">ii")); i < len(all) {
					l = append(l, witness(all[i])...)
				} else {
					l = append(l, num(1)...)
				}
			}
			switch {
			case int8(kind) == api.List && n >= 0:
				wantType(t, l, "li")
			case int8(kind) == api.Var && n == 0:
				wantRefused(t, l, api.ErrUnbound, 0)
			case known && n == len(strings.Fields(kids)):
				if got := given(l); got.e != api.OK {
					t.Errorf("P10.1: the kind %d with %d kids: %+v", kind, n, got)
				}
			default:
				wantRefused(t, l, api.ErrTree, 0)
				wantRefused(t, of(api.Box, l), api.ErrTree, 1)
			}
		}
	}
}
