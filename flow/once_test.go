package flow_test

import (
	"math"
	"runtime"
	"slices"
	"testing"

	"culprit/api"
	"culprit/coerce"
	"culprit/core"
	"culprit/sample"
	"culprit/value"
)

// border: a value of a type, which goes by the way of other ones back to it; and what is done with it then, where it is what the binder at the distance 2 has.
type border struct {
	of   string
	way  []string
	made string
	use  string
}

func borders() []border {
	return []border{
		{">ii", []string{">??"}, "Fn i i (Var 0)", "Call(Var 2, Num 1)"},
		{">??", []string{">ii"}, "Fn ? ? (Var 0)", "Call(Var 2, Cast i ? 9 (Num 1))"},
		{">??", []string{">?i", ">ii", ">i?"}, "Fn ? ? (Var 0)", "Call(Var 2, Cast i ? 9 (Num 1))"},
		{">??", []string{"?"}, "Fn ? ? (Var 0)", "Call(Var 2, Cast i ? 9 (Num 1))"},
		{">??", []string{">ii", "?", ">?i", "?"}, "Fn ? ? (Var 0)", "Call(Var 2, Cast i ? 9 (Num 1))"},
		{">i?", []string{">ii", ">?i"}, "Rec i ? (If(Less(Var 0, Num 0), Cast i ? 9 (Num 1), Cast i ? 9 (Var 0)))", "Call(Var 2, Num 1)"},
		{">>ii?", []string{">>???", ">??", "?", ">>?ii"}, "Fn >ii ? (Cast i ? 9 (Call(Var 0, Num 1)))", "Call(Var 2, Fn i i (Neg(Var 0)))"},
		{",??", []string{",ii"}, "Pair(Cast i ? 9 (Num 1), Cast i ? 9 (Num 2))", "First(Var 2)"},
		{",??", []string{",i?", "?", ",?i"}, "Pair(Cast i ? 9 (Num 1), Cast i ? 9 (Num 2))", "Second(Var 2)"},
		{",i,??", []string{",??", ",?,ii", ",?,i?", "?"}, "Pair(Num 1, Pair(Cast i ? 9 (Num 1), Cast i ? 9 (Num 2)))", "First(Second(Var 2))"},
		{"l?", []string{"li"}, "List ? (Cast i ? 9 (Num 1), Cast i ? 9 (Num 2))", "Head(Tail(Var 2))"},
		{"l?", []string{"li", "?"}, "List ? (Cast i ? 9 (Num 1), Cast i ? 9 (Num 2))", "Empty(Tail(Var 2))"},
		{"x?", []string{"xi"}, "Box(Cast i ? 9 (Num 1))", "Get(Var 2)"},
		{"x?", []string{"xi", "?"}, "Box(Cast i ? 9 (Num 1))", "Set(Var 2, Cast i ? 9 (Num 2))"},
		{"xx?", []string{"xxi", "x?", "?"}, "Box(Box(Cast i ? 9 (Num 1)))", "Get(Get(Var 2))"},
		{"x>??", []string{"x>ii", "x?", "x>i?"}, "Box(Fn ? ? (Var 0))", "Call(Get(Var 2), Cast i ? 9 (Num 1))"},
	}
}

// over: a value cast by the way and back.
func (b border) over(l []api.Node) []api.Node {
	from := b.of
	for i, to := range append(slices.Clone(b.way), b.of) {
		l, from = sample.Cast(from, to, int64(10+i), l), to
	}
	return l
}

// term: the value goes so many times over the border and back, and is used then, so many times.
func (b border) term(times, uses int64) []api.Node {
	goes := sample.UntilZero("i", b.of, sample.Term(b.made), b.over)
	used := sample.UntilZero("i", "i", sample.Num(0), func(call []api.Node) []api.Node {
		return sample.Of(api.Second, sample.Of(api.Pair, sample.Term(b.use), call))
	})
	return sample.Of(api.Let, sample.Of(api.Call, goes, sample.Num(times)), sample.Of(api.Call, used, sample.Num(uses)))
}

// bytes: how much memory a run asks for; the least of some runs, since others may ask for some meanwhile.
func bytes(t *testing.T, l []api.Node) int {
	least := uint64(math.MaxUint64)
	for range 4 {
		var before, after runtime.MemStats
		runtime.ReadMemStats(&before)
		if o := ran(l, api.MaxFuel, 4); o.seen != "num0" {
			t.Fatalf("the tests' own term %s: %s", sample.Written(l), o)
		}
		runtime.ReadMemStats(&after)
		least = min(least, after.TotalAlloc-before.TotalAlloc)
	}
	return int(least)
}

// However often a value went over a border and back, a use of it asks for no more memory; cast by cast it would go through each wrapper.
func TestUsesAreAsShort(t *testing.T) {
	for _, b := range borders() {
		each := func(times int64) int { return (bytes(t, b.term(times, 80)) - bytes(t, b.term(times, 40))) / 40 }
		if once, often := each(1), each(200); often > 2*once+300 {
			t.Errorf("what follows: over %v and back to %s: a use takes %d bytes behind 1 time, %d behind 200", b.way, b.of, once, often)
		}
	}
}

// So does each time that it goes there and back: what it is wrapped with grows no higher.
func TestWaysAreAsShort(t *testing.T) {
	for _, b := range borders() {
		none, some, more := bytes(t, b.term(0, 1)), bytes(t, b.term(200, 1)), bytes(t, b.term(400, 1))
		if first, second := some-none, more-some; second > 2*first {
			t.Errorf("what follows: over %v and back to %s: 200 times take %d bytes, 200 more %d", b.way, b.of, first, second)
		}
	}
}

// The values that the casts of such a way make, one by one: each is wrapped once at most, and no higher than the highest cast.
func TestWrappedOnce(t *testing.T) {
	for _, b := range borders() {
		casts, e := core.Casts(b.term(1, 1))
		if e != api.OK {
			t.Fatalf("the tests' own term of %v and %s: %d", b.way, b.of, e)
		}
		var way [][]api.Co
		highest := 0
		for _, laid := range casts {
			c, _ := coerce.Of(laid.From, laid.To, laid.Label)
			highest = max(highest, coerce.Height(c))
			if laid.Label >= 10 {
				way = append(way, c)
			}
		}
		slices.Reverse(way) // the outermost one stands first
		v := map[byte]value.Value{'>': value.Fun(1), ',': value.Pair(value.Num(1), value.Num(2)), 'l': value.Nil(), 'x': value.Box(1)}[b.of[0]]
		for range 30 {
			for _, c := range way {
				if v, _, e = value.Coerce(v, c); e != api.OK {
					t.Fatalf("what follows: %v and %s: %d", b.way, b.of, e)
				}
				middle, inner, _ := value.Wrap(v)
				if _, _, again := value.Wrap(inner); again || coerce.Height(middle) > highest {
					t.Errorf("what follows: %v and %s: wrapped again %t, %d high, the highest cast %d", b.way, b.of, again, coerce.Height(middle), highest)
				}
			}
		}
	}
}

// What is seen is as ever, and what fails then too.
func TestBordersAgree(t *testing.T) {
	for _, b := range borders() {
		for times := range int64(4) {
			for _, fuel := range []int{5, 30, api.MaxFuel} {
				wantAgreed(t, b.term(times, 3), fuel, 4)
			}
			goes := sample.UntilZero("i", b.of, sample.Term(b.made), b.over)
			wantAgreed(t, sample.Of(api.Call, goes, sample.Num(times)), api.MaxFuel, 5)
		}
	}
}
