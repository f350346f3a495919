package check_test

import (
	"slices"
	"strconv"
	"strings"
	"testing"

	"culprit/api"
	tested "culprit/check"
)

func fn(param, result string, body ...api.Node) []api.Node {
	return tree(api.Node{Kind: api.Fn, S: "x", T: param, U: result}, body)
}

func rec(param, result string, body ...api.Node) []api.Node {
	return tree(api.Node{Kind: api.Rec, S: "f x", T: param, U: result}, body)
}

func one(s string) []api.Node { return []api.Node{name(s)} }

func of(kind int8, names ...string) []api.Node {
	var kids [][]api.Node
	for _, s := range names {
		kids = append(kids, one(s))
	}
	return tree(api.Node{Kind: kind}, kids...)
}

// Of Fn and Rec the type is too large ahead of the kid, whatever the kid is.
func TestLargeFunctions(t *testing.T) {
	wantTree(t, fn(long(62), "", num(1)), "", ">"+long(62)+"? i")
	wantTree(t, fn("", long(62), name("y")), "y ?", ">?"+long(62)+" ?")
	wantTree(t, fn(long(31), long(32), name("y")), "y ?", ">"+long(31)+long(32)+" ?")
	wantTree(t, rec(long(62), "", name("f")), "", ">"+long(62)+"? >"+long(62)+"?")
	wantTree(t, rec("", long(62), name("x")), "", ">?"+long(62)+" ?")
	for _, body := range [][]api.Node{{num(1)}, {name("x")}, {name("unbound")}, tree(api.Node{Kind: api.Head}, []api.Node{num(1)})} {
		wantTreeRefused(t, fn(long(63), "", body...), "", api.ErrLarge, 0)
		wantTreeRefused(t, fn("", long(63), body...), "", api.ErrLarge, 0)
		wantTreeRefused(t, fn(long(32), long(32), body...), "", api.ErrLarge, 0)
		wantTreeRefused(t, fn(long(64), long(64), body...), "", api.ErrLarge, 0)
		wantTreeRefused(t, rec(long(63), "", body...), "", api.ErrLarge, 0)
		wantTreeRefused(t, rec("", long(63), body...), "", api.ErrLarge, 0)
		wantTreeRefused(t, rec(long(32), long(32), body...), "", api.ErrLarge, 0)
	}
	large := fn(long(64), "", num(1))
	wantTreeRefused(t, fn("", "", large...), "", api.ErrLarge, 1)
	wantTreeRefused(t, fn(long(64), "", large...), "", api.ErrLarge, 0)
	wantTreeRefused(t, tree(api.Node{Kind: api.Pair}, one("unbound"), large), "", api.ErrUnbound, 1)
	wantTreeRefused(t, tree(api.Node{Kind: api.Pair}, large, one("unbound")), "", api.ErrLarge, 1)
}

func TestLargePairsAndBoxes(t *testing.T) {
	wantTree(t, of(api.Pair, "x", "y"), "x "+long(31)+" y "+long(32), ","+long(31)+long(32)+" "+long(31)+" "+long(32))
	wantTreeRefused(t, of(api.Pair, "x", "y"), "x "+long(32)+" y "+long(32), api.ErrLarge, 0)
	wantTreeRefused(t, of(api.Pair, "x", "y"), "x "+long(63)+" y i", api.ErrLarge, 0)
	wantTreeRefused(t, of(api.Pair, "x", "z"), "x "+long(64), api.ErrUnbound, 2)
	wantTree(t, of(api.Box, "x"), "x "+long(63), "x"+long(63)+" "+long(63))
	wantTreeRefused(t, of(api.Box, "x"), "x "+long(64), api.ErrLarge, 0)
	wantTreeRefused(t, tree(api.Node{Kind: api.Box}, of(api.Box, "x")), "x "+long(63), api.ErrLarge, 0)
	wantTreeRefused(t, tree(api.Node{Kind: api.Box}, of(api.Box, "x")), "x "+long(64), api.ErrLarge, 1)
}

// halves: two consistent types whose meet is a pair of so many letters and one more.
func halves(left, right int) string {
	return "x ,?" + long(right) + " y ," + long(left) + "?"
}

func TestLargeChoices(t *testing.T) {
	l := of(api.If, "c", "x", "y")
	wantTree(t, l, "c b "+halves(31, 32), ","+long(31)+long(32)+" b ,?"+long(32)+" ,"+long(31)+"?")
	wantTreeRefused(t, l, "c b "+halves(32, 32), api.ErrLarge, 0)
	wantTreeRefused(t, l, "c i "+halves(32, 32), api.ErrType, 1)
	wantTreeRefused(t, l, "c b "+halves(62, 62), api.ErrLarge, 0)
	// What gets too large on one side and does not agree on the other does not agree.
	wantTreeRefused(t, l, "c b x ,,?"+long(30)+"i y ,,"+long(30)+"?b", api.ErrBranch, 3)
	wantTree(t, l, "c b x "+long(64)+" y ?", long(64)+" b "+long(64)+" ?")
	wantTreeRefused(t, tree(api.Node{Kind: api.Pair}, one("c"), l), "c b "+halves(32, 32), api.ErrLarge, 2)
}

func TestLargeLists(t *testing.T) {
	wantTree(t, of(api.List, "x"), "x "+long(63), long(64)+" "+long(63))
	wantTreeRefused(t, of(api.List, "x"), "x "+long(64), api.ErrLarge, 0)
	wantTreeRefused(t, of(api.List, "y", "x"), "x "+long(64)+" y ?", api.ErrLarge, 0)
	l := of(api.List, "x", "y")
	wantTree(t, l, halves(31, 31), "l,"+long(31)+long(31)+" ,?"+long(31)+" ,"+long(31)+"?")
	wantTreeRefused(t, l, halves(31, 32), api.ErrLarge, 0)
	wantTreeRefused(t, l, halves(32, 32), api.ErrLarge, 0)

	// A meet of 64 letters is none yet: the next element is asked. One of 65 is refused ahead of that, but behind all elements.
	l = of(api.List, "x", "y", "z")
	wantTreeRefused(t, l, halves(31, 32)+" z i", api.ErrBranch, 3)
	wantTreeRefused(t, l, halves(32, 32)+" z i", api.ErrLarge, 0)
	wantTreeRefused(t, l, halves(31, 32)+" z ?", api.ErrLarge, 0)
	wantTreeRefused(t, l, halves(32, 32), api.ErrUnbound, 3)
	wantTreeRefused(t, of(api.List, "z", "x", "y"), halves(32, 32)+" z i", api.ErrBranch, 2)
	wantTreeRefused(t, of(api.List, "z", "x", "y"), halves(32, 32)+" z ?", api.ErrLarge, 0)
	wantTreeRefused(t, of(api.List, "x", "y", "z"), "x ,,?"+long(30)+"i y ,,"+long(30)+"?b z ?", api.ErrBranch, 2)
	wantTreeRefused(t, tree(api.Node{Kind: api.Pair}, one("x"), l), halves(32, 32)+" z i", api.ErrLarge, 2)
}

// What is taken out, or put into something that is there, is never too large.
func TestLargeTypesTakenApart(t *testing.T) {
	wantTree(t, of(api.Cons, "a", "x"), "a "+long(63)+" x "+long(64), long(64)+" "+long(63)+" "+long(64))
	wantTree(t, of(api.Cons, "a", "x"), "a ? x "+long(64), long(64)+" ? "+long(64))
	wantTree(t, of(api.Cons, "a", "x"), "a "+long(64)+" x ?", "l? "+long(64)+" ?")
	wantTree(t, of(api.Cons, "a", "x"), "a "+long(64)+" x l?", "l? "+long(64)+" l?")
	wantTreeRefused(t, of(api.Cons, "a", "x"), "a "+long(64)+" x "+long(64), api.ErrType, 1)
	wantTree(t, of(api.Head, "x"), "x "+long(64), long(63)+" "+long(64))
	wantTree(t, of(api.Tail, "x"), "x "+long(64), long(64)+" "+long(64))
	wantTree(t, of(api.Get, "x"), "x x"+long(63), long(63)+" x"+long(63))
	wantTree(t, of(api.Set, "x", "a"), "x x? a "+long(64), "? x? "+long(64))
	wantTree(t, of(api.Call, "x", "a"), "x >"+long(31)+long(32)+" a "+long(31), long(32)+" >"+long(31)+long(32)+" "+long(31))
	wantTree(t, of(api.Call, "x", "a"), "x ? a "+long(64), "? ? "+long(64))
	wantTree(t, of(api.Second, "x"), "x ,"+long(31)+long(32), long(32)+" ,"+long(31)+long(32))
	wantTree(t, tree(api.Node{Kind: api.As, T: long(64)}, one("x")), "x ?", long(64)+" ?")
	wantTree(t, tree(api.Node{Kind: api.Let, S: "y", T: long(64)}, one("x"), one("y")), "x ?", long(64)+" ? "+long(64))
}

func TestArguments(t *testing.T) {
	good := []api.Node{num(1)}
	bad := [][]api.Node{nil, {}, {num(-1)}, {num(1), num(2)}}
	for _, c := range []struct{ names, types []string }{
		{[]string{"x"}, nil},
		{nil, []string{"i"}},
		{[]string{"x"}, []string{"i", "i"}},
		{[]string{"x", "y"}, []string{"i"}},
		{[]string{""}, []string{"i"}},
		{[]string{"let"}, []string{"i"}},
		{[]string{"1"}, []string{"i"}},
		{[]string{"x "}, []string{"i"}},
		{[]string{"f x"}, []string{"i"}},
		{[]string{"é"}, []string{"i"}},
		{[]string{strings.Repeat("n", 33)}, []string{"i"}},
		{[]string{"x"}, []string{""}},
		{[]string{"x"}, []string{"z"}},
		{[]string{"x"}, []string{"ii"}},
		{[]string{"x"}, []string{">i"}},
		{[]string{"x"}, []string{"int"}},
		{[]string{"x"}, []string{long(65)}},
		{[]string{"x", "", "y"}, []string{"i", "i", "i"}},
		{[]string{"x", "y", "rec"}, []string{"i", "i", "i"}},
		{[]string{"x", "x", "x"}, []string{"", "i", "i"}}, // one that does not count, too
		{[]string{"x", "y", "z"}, []string{"i", "i", "l"}},
	} {
		for _, l := range append(bad, good, []api.Node{name("unbound")}) {
			if got, e, at := tested.Expr(l, c.names, c.types); len(got) != 0 || e != api.ErrArg || at != 0 {
				t.Errorf("P8.1: Expr(%s, %q, %q) = %s, %d, %d; want ErrArg", shown(l), c.names, shown(c.types), shown(got), e, at)
			}
		}
	}
	wantTree(t, []api.Node{name(strings.Repeat("n", 32))}, strings.Repeat("n", 32)+" "+long(64), long(64))
	if got, e, at := tested.Expr(good, []string{}, []string{}); !slices.Equal(got, []string{"i"}) || e != api.OK || at != 0 {
		t.Errorf("R4: an environment of none: %q, %d, %d", got, e, at)
	}
}

func TestListsThatAreNoTrees(t *testing.T) {
	neg := api.Node{Kind: api.Neg, Kids: 1}
	nested := func(n int) []api.Node { return append(slices.Repeat([]api.Node{neg}, n), name("x")) }
	for _, c := range []struct {
		l  []api.Node
		e  api.Errno
		at int
	}{
		{nil, api.ErrMany, 0},
		{[]api.Node{}, api.ErrMany, 0},
		{slices.Repeat([]api.Node{num(1)}, 4097), api.ErrMany, 0},
		{[]api.Node{num(1), num(1)}, api.ErrTree, 1},
		{[]api.Node{{Kind: api.Add, Kids: 2}, num(1)}, api.ErrTree, 2},
		{[]api.Node{neg, num(-1)}, api.ErrTree, 1},
		{[]api.Node{neg, name("if")}, api.ErrTree, 1},
		{[]api.Node{{Kind: api.Cast, Kids: 1, T: "i", U: "?", N: 1}, num(1)}, api.ErrTree, 0},
		{[]api.Node{{Kind: api.As, Kids: 1}, num(1)}, api.ErrTree, 0},
		{[]api.Node{{Kind: api.Fn, Kids: 1, S: "x", T: ">i"}, num(1)}, api.ErrTree, 0},
		{[]api.Node{{Kind: api.Let, Kids: 2, S: "x", T: long(65)}, num(1), num(1)}, api.ErrTree, 0},
		{[]api.Node{{Kind: api.List, Kids: -1}}, api.ErrTree, 0},
		{[]api.Node{{}}, api.ErrTree, 0},
		{[]api.Node{{Kind: -1}}, api.ErrTree, 0},
		{[]api.Node{{Kind: 127}}, api.ErrTree, 0},
		{nested(64), api.ErrDeep, 64},
		// Ahead of what the rules say.
		{[]api.Node{{Kind: api.Add, Kids: 2}, name("unbound"), num(-1)}, api.ErrTree, 2},
		{append(fn(long(64), "", name("x")), num(1)), api.ErrTree, 2},
	} {
		wantTreeRefused(t, c.l, "x i", c.e, c.at)
	}
	wantTree(t, nested(63), "x ?", strings.Repeat("i ", 63)+"?")
}

func TestLimitOfNodes(t *testing.T) {
	full := append([]api.Node{{Kind: api.List, Kids: 4095}}, slices.Repeat([]api.Node{name("x")}, 4095)...)
	wantTree(t, full, "x ?", "l? "+strings.Repeat("? ", 4095))
	wantTree(t, full, "x "+long(63), long(64)+strings.Repeat(" "+long(63), 4095))
	full[4095] = num(1)
	wantTree(t, full, "x ?", "li "+strings.Repeat("? ", 4094)+"i")
	wantTreeRefused(t, full, "x b", api.ErrBranch, 4095)
	full[4095] = name("y")
	wantTreeRefused(t, full, "x b", api.ErrUnbound, 4095)
}

// Binders nearly as deep as may be, each name bound twice: at the bottom each has the type of its nearer binder.
func TestDeepBinders(t *testing.T) {
	for kind, own := range map[int8]string{api.Fn: "", api.Rec: "f "} {
		var binders []api.Node
		for i := range 62 {
			binders = append(binders, api.Node{Kind: kind, Kids: 1, S: own + "x" + strconv.Itoa(i%31), T: long(1 + i)})
		}
		for i := range 31 {
			l := append(slices.Clone(binders), name("x"+strconv.Itoa(i)))
			got, e, at := tested.Expr(l, []string{"x0", "y"}, []string{"b", "t"})
			if e != api.OK || at != 0 || len(got) != 63 || got[62] != long(32+i) || got[61] != ">"+long(62)+"?" {
				t.Errorf("P8.1: x%d below 62 binders of kind %d: %d at %d, %s", i, kind, e, at, shown(got))
			}
		}
		got, e, at := tested.Expr(append(slices.Clone(binders), name("y")), []string{"x0", "y"}, []string{"b", "t"})
		if e != api.OK || at != 0 || got[62] != "t" {
			t.Errorf("P8.1: y below 62 binders of kind %d: %d at %d, %s", kind, e, at, shown(got))
		}
	}
}

// Every name of an environment is found, however many there are, and of those that are alike the last one.
func TestManyNames(t *testing.T) {
	const many = 1 << 18
	var names, types []string
	for i := range many {
		names = append(names, "n"+strconv.Itoa(i%(many/2)))
		types = append(types, long(1+i%61))
	}
	l, want := []api.Node{{Kind: api.List, Kids: 2047}}, []string{"l?"}
	for i := range 2047 {
		k := (i*131 + 1) % (many / 2)
		l = append(l, api.Node{Kind: api.As, Kids: 1, T: "?"}, name(names[k]))
		want = append(want, "?", types[k+many/2])
	}
	if got, e, at := tested.Expr(l, names, types); !slices.Equal(got, want) || e != api.OK || at != 0 {
		t.Errorf("P8.1: names of a large environment: %d at %d, %s", e, at, shown(got))
	}
	types[1] = "?" // two of the names are alike, this one stands ahead
	if got, e, at := tested.Expr(l, names, types); !slices.Equal(got, want) || e != api.OK || at != 0 {
		t.Errorf("P8.1: names of a large environment: %d at %d, %s", e, at, shown(got))
	}
}
