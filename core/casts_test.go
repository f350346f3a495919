package core_test

import (
	"math"
	"slices"
	"testing"

	"culprit/api"
	"culprit/core"
)

func wantCasts(t *testing.T, l []api.Node, want ...core.Laid) {
	t.Helper()
	if got, e := core.Casts(l); e != api.OK || !slices.Equal(got, want) {
		t.Errorf("P10.2: Casts(%s) = %s, %d; want %s", told(l), shown(got), e, shown(want))
	}
}

func TestCasts(t *testing.T) {
	wantCasts(t, term("Num 1"))
	wantCasts(t, term("Pair(Fn i i (Var 0), List ? ())"))
	wantCasts(t, term("Cast i ? 7 (Num 1)"), core.Laid{Label: 7, From: "i", To: "?"})
	wantCasts(t, term("Cast i i 1 (Num 1)"), core.Laid{Label: 1, From: "i", To: "i"})
	wantCasts(t, term("Cast ? t 2147483647 (Cast i ? 1 (Num 1))"), core.Laid{Label: math.MaxInt32, From: "?", To: "t"}, core.Laid{Label: 1, From: "i", To: "?"})
	wantCasts(t, term("Call(Cast >?? >i? 5 (Fn ? ? (Cast i ? 2 (Neg(Cast ? i 9 (Var 0))))), Cast ? i 1 (Cast b ? 3 (Truth 1)))"),
		core.Laid{Label: 5, From: ">??", To: ">i?"}, core.Laid{Label: 2, From: "i", To: "?"}, core.Laid{Label: 9, From: "?", To: "i"}, core.Laid{Label: 1, From: "?", To: "i"}, core.Laid{Label: 3, From: "b", To: "?"})
	// Each one is told, however often its label stands.
	wantCasts(t, term("Pair(Cast i ? 4 (Num 1), Pair(Cast i ? 4 (Num 1), Cast b ? 4 (Truth 1)))"),
		core.Laid{Label: 4, From: "i", To: "?"}, core.Laid{Label: 4, From: "i", To: "?"}, core.Laid{Label: 4, From: "b", To: "?"})
}

// As many as may be, wide and deep.
func TestManyCasts(t *testing.T) {
	const most = 1<<13 - 1
	l := []api.Node{{Kind: api.List, Kids: most, T: "?"}}
	var want []core.Laid
	for i := range most {
		l = append(l, cast("i", "?", int64(most-i), num(1))...)
		want = append(want, core.Laid{Label: int64(most - i), From: "i", To: "?"})
	}
	wantCasts(t, l, want...)

	deep := make([]api.Node, 0, 1024)
	want = nil
	for i := range 1023 {
		laid := core.Laid{Label: int64(1 + i), From: []string{"i", "?"}[i%2], To: []string{"?", "i"}[i%2]}
		deep = append(deep, api.Node{Kind: api.Cast, Kids: 1, T: laid.From, U: laid.To, N: laid.Label})
		want = append(want, laid)
	}
	wantCasts(t, append(deep, num(1)...), want...)
}

// Check's error, and nothing beside it, whatever casts stand ahead of the fault.
func TestCastsOfWhatDoesNotCheck(t *testing.T) {
	ahead := cast("i", "?", 7, num(1))
	for _, wrong := range []string{"Var 0", "Truth 2", "Neg(Truth 1)", "Fn z i (Num 1)", "List z ()", "Cast i b 1 (Num 1)", "Cast i ? 0 (Num 1)", "As(Num 1)", "Add(Num 1)"} {
		l := of(api.Pair, ahead, term(wrong))
		_, want, _ := core.Check(l)
		if got, e := core.Casts(l); len(got) != 0 || e != want || e == api.OK {
			t.Errorf("P10.2: Casts(%s) = %v, %d; want %d", told(l), got, e, want)
		}
	}
	for _, c := range []struct {
		l []api.Node
		e api.Errno
	}{
		{nil, api.ErrTree},
		{[]api.Node{}, api.ErrTree},
		{append(slices.Clone(ahead), num(1)...), api.ErrTree},
		{ahead[:1], api.ErrTree},
		{wide(1 << 14), api.ErrMany},
		{of(api.Pair, ahead, nested(1023, num(1))), api.ErrDeep},
		{of(api.Pair, ahead, []api.Node{{Kind: api.Str, S: long(65)}}), api.ErrLong},
		{of(api.Pair, ahead, of(api.Box, witness(long(64)))), api.ErrLarge},
		{of(api.Pair, ahead, name(0)), api.ErrUnbound},
		{of(api.Pair, ahead, cast("i", "?", 1<<31, num(1))), api.ErrNumber},
		{of(api.Pair, ahead, cast("i", "", 1, num(1))), api.ErrShape},
		{of(api.Pair, ahead, cast("b", "?", 1, num(1))), api.ErrType},
	} {
		if got, e := core.Casts(c.l); len(got) != 0 || e != c.e {
			t.Errorf("P10.2: Casts(%s) = %v, %d; want %d", told(c.l), got, e, c.e)
		}
	}
}

func TestCastsOfDealtTerms(t *testing.T) {
	g := maker{dice: 12}
	seen, refused := 0, 0
	for range 3000 {
		l, _ := g.dealt()
		if g.coin() {
			l = g.spoilt(l)
		}
		l = g.noisy(l)
		var want []core.Laid
		_, e, _ := core.Check(l)
		if e == api.OK {
			for _, n := range l {
				if n.Kind == api.Cast {
					want = append(want, core.Laid{Label: n.N, From: n.T, To: n.U})
				}
			}
		} else {
			refused++
		}
		got, f := core.Casts(l)
		if f != e || !slices.Equal(got, want) {
			t.Fatalf("P10.2: Casts(%s) = %v, %d; want %v, %d", told(l), got, f, want, e)
		}
		seen += len(got)
	}
	if seen < 1000 || refused < 300 {
		t.Errorf("too few casts were dealt: %d, %d refused", seen, refused)
	}
}
