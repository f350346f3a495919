package tree_test

import (
	"slices"
	"strconv"
	"testing"

	"culprit/api"
	tested "culprit/tree"
)

func wantFree(t *testing.T, l []api.Node, want ...string) {
	t.Helper()
	if got := tested.Free(l); !slices.Equal(got, want) {
		t.Errorf("P5.6: Free(%s) = %s; want %s", shown(l), shown(got), shown(want))
	}
}

func TestFreeOfTheTable(t *testing.T) {
	wantFree(t, tree(let("x"), name("x"), with(api.Call), name("x"), name("y")), "x", "y")
	wantFree(t, tree(rec("f x"), with(api.Call), name("f"), name("z")), "z")
}

func TestFreeByBinders(t *testing.T) {
	wantFree(t, tree(name("x")), "x")
	wantFree(t, tree(num(1)))
	wantFree(t, tree(api.Node{Kind: api.Str, S: "x"}))
	wantFree(t, tree(fn("x"), name("x")))
	wantFree(t, tree(fn("x"), name("y")), "y")
	wantFree(t, tree(rec("f x"), name("f")))
	wantFree(t, tree(rec("f x"), name("x")))
	wantFree(t, tree(rec("f x"), name("fx")), "fx")
	wantFree(t, tree(rec("f f"), with(api.Call), name("f"), name("x")), "x")
	wantFree(t, tree(let("x"), num(1), name("x")))
	wantFree(t, tree(let("x"), name("x"), num(1)), "x")
	wantFree(t, tree(let("x"), name("y"), name("y")), "y")

	// A binder binds in its own kids alone, not behind its part.
	wantFree(t, tree(with(api.Pair), fn("x"), name("x"), name("x")), "x")
	wantFree(t, tree(with(api.Pair), name("x"), fn("x"), name("x")), "x")
	wantFree(t, tree(with(api.Pair), rec("f x"), name("x"), with(api.Call), name("f"), name("x")), "f", "x")
	wantFree(t, tree(with(api.Pair), let("x"), num(1), name("x"), name("x")), "x")
	wantFree(t, tree(with(api.Pair), rec("f f"), name("f"), name("f")), "f")

	// One within another, of the same name: the outer one binds still when the inner one has ended.
	wantFree(t, tree(fn("x"), with(api.Pair), fn("x"), name("x"), name("x")))
	wantFree(t, tree(fn("x"), let("x"), name("x"), name("x")))
	wantFree(t, tree(let("x"), let("x"), name("x"), name("x"), name("x")), "x")
	wantFree(t, tree(let("x"), num(1), let("x"), name("x"), name("x")))
	wantFree(t, tree(rec("x x"), with(api.Pair), rec("x y"), name("x"), name("x")))
}

// By where they stand free for the first time: not by the alphabet, not by where a bound one stands.
func TestFreeInOrder(t *testing.T) {
	wantFree(t, tree(list(5), name("c"), name("a"), name("c"), name("b"), name("a")), "c", "a", "b")
	wantFree(t, tree(list(3), fn("x"), name("x"), name("y"), name("x")), "y", "x")
	wantFree(t, tree(let("x"), name("y"), with(api.Pair), name("x"), name("z")), "y", "z")
	wantFree(t, tree(with(api.If), name("X"), name("x"), name("X")), "X", "x")
}

func TestFreeOfWhatIsRefused(t *testing.T) {
	wantFree(t, nil)
	wantFree(t, []api.Node{})
	wantFree(t, tree(name("x"), name("y")))
	wantFree(t, tree(with(api.Pair), name("x")))
	wantFree(t, tree(with(api.Pair), name("x"), num(-1)))
	wantFree(t, tree(api.Node{Kind: api.Cast, Kids: 1, T: "i", U: "?", N: 1}, name("x")))
	wantFree(t, tree(list(-1)))
	wantFree(t, tree(rec("f"), name("x")))
	deep := nested(64)
	deep[64] = name("x")
	wantFree(t, deep)
	wantFree(t, deep[1:], "x")
	wantFree(t, append(tree(list(4096)), slices.Repeat(tree(name("x")), 4096)...))
	wantFree(t, append(tree(list(4095)), slices.Repeat(tree(name("x")), 4095)...), "x")
}

func TestFreeOfManyNames(t *testing.T) {
	l, want := tree(list(4095)), []string(nil)
	for n := range 4095 {
		want = append(want, "n"+strconv.Itoa(n*11%4095))
		l = append(l, name(want[n]))
	}
	wantFree(t, l, want...)
}

func TestFreeOfManyTrees(t *testing.T) {
	var d dice = 2
	told := map[int]int{}
	for range 5000 {
		l := d.grown(1+d.below(90), api.MaxNest)
		want := once(freeOf(l, 0, nil))
		wantFree(t, l, want...)
		told[len(want)]++
	}
	for n := range 5 {
		if told[n] < 100 {
			t.Errorf("too few kinds of trees were dealt: %v", told)
		}
	}
}

// R5: answers are new.
func TestFreeIsNew(t *testing.T) {
	l := tree(with(api.Pair), name("a"), name("b"))
	one, other := tested.Free(l), tested.Free(l)
	clear(one[:cap(one)])
	if !slices.Equal(other, []string{"a", "b"}) {
		t.Errorf("R5: two answers share memory: %q", other)
	}
}
