package emit_test

import (
	"slices"
	"testing"

	"culprit/api"
	"culprit/sample"
)

// A place is given out for a number, a text, a type: the first one's that is the same, or a new one.
func TestPlaces(t *testing.T) {
	wantLines(t, sample.Term("List i (Num 5, Num 6, Num 5, Num -6, Num 6, Num 7, Num 0)"),
		"num 5", "num 6", "num -6", "num 7", "num 0", `type "i"`, `fn : "" "li"`,
		" push 0 0", " push 1 0", " push 0 0", " push 2 0", " push 1 0", " push 3 0", " push 4 0", " list 7 0", " ret 0 0")
	wantLines(t, sample.Term("List t (Str a, Str b, Str a, Str _, Str A, Str _, Str ab)"),
		`text "a"`, `text "b"`, `text ""`, `text "A"`, `text "ab"`, `type "t"`, `fn : "" "lt"`,
		" text 0 0", " text 1 0", " text 0 0", " text 2 0", " text 3 0", " text 2 0", " text 4 0", " list 7 0", " ret 0 0")
	wantLines(t, sample.Term("Pair(List i (), Pair(List b (), Pair(List i (), Pair(List lb (List b ()), List >ii ()))))"),
		`type "i"`, `type "b"`, `type "lb"`, `type ">ii"`, `fn : "" ",li,lb,li,llbl>ii"`,
		" list 0 0", " list 0 1", " list 0 0", " list 0 1", " list 1 2", " list 0 3", " pair 0 0", " pair 0 0", " pair 0 0", " pair 0 0", " ret 0 0")
	// A number and a text, a type and a text, a type of a list and one of a cast know nothing of each other; nor has the type of a function or of a list a place.
	wantLines(t, sample.Term("Pair(Str 1, Pair(Num 1, Pair(Str i, Pair(List i (Num 2), Cast b ? 1 (Truth 1)))))"),
		"num 1", "num 2", `text "1"`, `text "i"`, `type "i"`, `cast "b" "?" 2.0.1.98.0.0.0`, `fn : "" ",t,i,t,li?"`,
		" text 0 0", " push 0 0", " text 1 0", " push 1 0", " list 1 0", " truth 1 0", " cast 0 0", " pair 0 0", " pair 0 0", " pair 0 0", " pair 0 0", " ret 0 0")
}

// All functions share the lists: what is laid first has the first place, a body's things ahead of what follows it.
func TestPlacesOfFunctions(t *testing.T) {
	wantLines(t, sample.Term("Pair(Num 1, Pair(Fn i i (Add(Num 2, Add(Num 1, Num 3))), Pair(Num 3, Num 4)))"),
		"num 1", "num 2", "num 3", "num 4", `fn : "" ",i,>ii,ii"`,
		" push 0 0", " fn 1 0", " push 2 0", " push 3 0", " pair 0 0", " pair 0 0", " pair 0 0", " ret 0 0",
		`fn : "i" "i"`, " push 1 0", " push 0 0", " push 2 0", " op 10 0", " op 10 0", " ret 0 0")
	wantLines(t, sample.Term("Pair(Fn i ? (Cast i ? 1 (Var 0)), Pair(Cast b ? 2 (Truth 0), Cast i ? 3 (Num 1)))"),
		"num 1", `cast "i" "?" 2.0.1.105.0.0.0`, `cast "b" "?" 2.0.1.98.0.0.0`, `fn : "" ",>i?,??"`,
		" fn 1 0", " truth 0 0", " cast 1 0", " push 0 0", " cast 0 0", " pair 0 0", " pair 0 0", " ret 0 0",
		`fn : "i" "?"`, " local 0 0", " cast 0 0", " ret 0 0")
	// A list's type is given its place behind its elements' things.
	wantLines(t, sample.Term("List lb (List b (), Second(Pair(List i (), List b ())))"),
		`type "b"`, `type "i"`, `type "lb"`, `fn : "" "llb"`,
		" list 0 0", " list 0 1", " list 0 0", " pair 0 0", " part 20 0", " list 2 2", " ret 0 0")
}

// Casts are the same by From, To and Co; their labels count by what they make of the Co.
func TestPlacesOfCasts(t *testing.T) {
	for _, c := range []struct {
		one, other string // the heads of two casts
		same       bool
	}{
		{"i ? 1", "i ? 1", true},
		{"i ? 1", "i ? 2", true}, // no label in it
		{"i ? 1", "b ? 1", false},
		{"? i 1", "? i 1", true},
		{"? i 1", "? i 2", false}, // by labels alone
		{"? i 1", "? b 1", false},
		{"? ? 1", "? ? 2", true},
		{"i i 1", "i i 2", true},
		{"i i 1", "i ? 1", false},
		{"i i 1", "? ? 1", false},
		{">ii >ii 1", ">ii >ii 2", true},
		{">ii >i? 1", ">ii >i? 2", true},
		{">ii >?i 1", ">ii >?i 1", true},
		{">ii >?i 1", ">ii >?i 2", false}, // by the label below 0 alone
		{">?i >ii 1", ">?i >ii 2", true},
		{">i? >ii 1", ">i? >ii 2", false},
		{">?? ? 1", ">?? ? 2", true},
		{">ii ? 1", ">ii ? 2", false},
		{">?i ? 1", ">?i ? 2", true},
		{">>ii? ? 1", ">>ii? ? 2", false},
		{">>??? ? 1", ">>??? ? 2", false},
		{",ii ? 1", ",ii ? 2", true},
		{",i? ,ii 1", ",i? ,ii 2", false},
		{"li ? 1", "li ? 2", true},
		{"? l? 1", "? l? 2", false},
		{"xi xi 1", "xi xi 2", true},
		{"xi x? 1", "xi x? 2", false},
		{"x? xi 1", "x? xi 2", false},
		{"xi ? 1", "xi ? 2", false},
		{"x? ? 1", "x? ? 2", true},
		{"xxi xxi 1", "xxi xxi 2", true},
		{"l,i>bi l,?>b? 1", "l,i>bi l,?>b? 2", true},
		{"l,i>bi l,?>?? 1", "l,i>bi l,?>?? 2", false},
		{"l,i>bi l,?>?? 7", "l,i>bi l,?>?? 7", true},
		// From alone, To alone: casts of ? to lists, whose coercions differ as well; and such as do nothing.
		{"? li 1", "? l? 1", false},
		{"li l? 1", "l? l? 1", false},
		{"li li 1", "lb lb 1", false},
		{"? ,i? 1", "? ,?i 1", false},
	} {
		one, other := sample.Term("Cast " + c.one + " (Num 1)")[0], sample.Term("Cast " + c.other + " (Num 1)")[0]
		// Functions that do nothing but that cast, in a pair.
		f := func(n api.Node) []api.Node { return sample.Fn(n.T, n.U, sample.Cast(n.T, n.U, n.N, sample.Var(0))) }
		code := good(t, sample.Of(api.Pair, f(one), f(other)))
		places := []int{code.Functions[1].Code[1].A, code.Functions[2].Code[1].A}
		want := []int{0, 1}
		if c.same {
			want = []int{0, 0}
		}
		if !slices.Equal(places, want) || len(code.Casts) != want[1]+1 {
			t.Errorf("P19.2: Cast %s and Cast %s have the places %v of %d", c.one, c.other, places, len(code.Casts))
		}
		for i, n := range []api.Node{one, other} {
			if w := code.Casts[places[i]]; w.From != n.T || w.To != n.U || !sameCo(w.Co, n) {
				t.Errorf("P19.2: Cast %s %s %d: %v", n.T, n.U, n.N, w)
			}
		}
	}
}

// Many casts: each pair of types and each label it tells has one place.
func TestManyPlacesOfCasts(t *testing.T) {
	l := sample.Term("Num 1")
	for _, n := range []int64{3, 1, 3, 2, 1, 1, 3} {
		l = sample.Cast("?", "i", n, sample.Cast("i", "?", n+4, l))
	}
	c := good(t, l)
	var places []int
	for _, i := range c.Functions[0].Code {
		places = append(places, i.A)
	}
	// push; then i to ?, ? to i, seven times; ret.
	if want := []int{0, 0, 1, 0, 2, 0, 1, 0, 3, 0, 2, 0, 2, 0, 1, 0}; !slices.Equal(places, want) {
		t.Errorf("P19.2: the places %v", places)
	}
	if len(c.Casts) != 4 {
		t.Errorf("P19.2: casts %v", c.Casts)
	}
}
