package coerce_test

import (
	"slices"
	"strings"
	"testing"

	"culprit/api"
	"culprit/coerce"
)

// roomy: a list with spare room, and something in it.
func roomy(c []api.Co) []api.Co {
	return append(slices.Clone(c), api.Co{Op: 77, Proj: 77}, api.Co{Op: 78, Head: 'z'}, api.Co{Op: api.CoAny})[:len(c)]
}

// everything: a list with its spare room, as a copy.
func everything(c []api.Co) []api.Co { return slices.Clone(c[:cap(c)]) }

// R5: what is handed in stays as it was, its spare room too.
func TestArgumentsStay(t *testing.T) {
	var d dice = 51
	for range 5000 {
		ends := d.chain(3)
		s, u := d.between(ends[0], ends[1], d.below(4)).list(), d.between(ends[1], ends[2], d.below(4)).list()
		for range 3 {
			s, u = roomy(s), roomy(u)
			before, others := everything(s), everything(u)
			coerce.May(s)
			coerce.Fits(s, ends[0], ends[1])
			coerce.Meet(s, u)
			coerce.Then(s, u)
			coerce.Then(u, s)
			coerce.IsId(s)
			coerce.Height(s)
			coerce.Text(s)
			if !slices.Equal(everything(s), before) || !slices.Equal(everything(u), others) {
				t.Fatalf("R5: an argument is changed: %s, %s", told(before), told(others))
			}
			if d.coin() {
				u = d.spoilt(u)
			} else {
				s = d.spoilt(s)
			}
			if len(s) == 0 || len(u) == 0 {
				break
			}
		}
	}
}

// wantNew: two answers of one call share nothing with each other, nor with what was handed in; R6: they are the same.
func wantNew(t *testing.T, what string, call func() ([]api.Co, api.Errno), given ...[]api.Co) {
	t.Helper()
	var before [][]api.Co
	for _, g := range given {
		before = append(before, everything(g))
	}
	one, e := call()
	other, f := call()
	want := slices.Clone(one)
	if e != api.OK || f != api.OK || !slices.Equal(other, want) {
		t.Fatalf("R6: %s: %s, %d, and %s, %d", what, told(one), e, told(other), f)
	}
	clear(one[:cap(one)])
	if !slices.Equal(other, want) {
		t.Fatalf("R5: %s: two answers share memory", what)
	}
	for i, g := range given {
		if !slices.Equal(everything(g), before[i]) {
			t.Fatalf("R5: %s: an answer shares memory with an argument", what)
		}
		clear(g[:cap(g)])
	}
	if !slices.Equal(other, want) {
		t.Fatalf("R5: %s: an argument is kept", what)
	}
}

func TestAnswersAreNew(t *testing.T) {
	pairs := [][2]string{{"?", "?"}, {"?", "1?l1?i"}, {"!l!i", "?"}, {"#1lb", "l?"}, {"2?l1?i", "#1lb"}, {"!i", "7?b"}, {"li", "li"}, {",!i!l?", ",??"}, {",??", ",1?i1?l?"}, {">??", ">!l?1?l?"}, {"x!l?1?l?", "x??"}, {"x??", "x1?l?!l?"}}
	for _, c := range pairs {
		s, u := roomy(list(c[0])), roomy(list(c[1]))
		wantNew(t, "Then of "+c[0]+" and "+c[1], func() ([]api.Co, api.Errno) { return coerce.Then(s, u) }, s, u)
	}
	var d dice = 52
	for range 3000 {
		ends := d.chain(3)
		s, u := roomy(d.between(ends[0], ends[1], d.below(4)).list()), roomy(d.between(ends[1], ends[2], d.below(4)).list())
		wantNew(t, "Then of "+told(s)+" and "+told(u), func() ([]api.Co, api.Errno) { return coerce.Then(s, u) }, s, u)
	}
	for _, c := range [][2]string{{"?", "?"}, {"i", "?"}, {">ib", "?"}, {"?", "xl?"}, {"xxi", "xx?"}, {"li", "li"}} {
		wantNew(t, "Of "+c[0]+" and "+c[1], func() ([]api.Co, api.Errno) { return coerce.Of(c[0], c[1], 5) })
	}
	for _, s := range []string{"?", "i", ">-5?i!i", "x!i-5?i", "3?#4ib"} {
		wantNew(t, "Parse of "+s, func() ([]api.Co, api.Errno) { return coerce.Parse(s) })
	}
	// One list in both places.
	same := roomy(list("l1?!i"))
	wantNew(t, "Then of a list and itself", func() ([]api.Co, api.Errno) { return coerce.Then(same, same) }, same)
}

// R4: a list that is nil and one without nodes are the same.
func TestNoNodes(t *testing.T) {
	for _, none := range [][]api.Co{nil, {}, list("i")[:0]} {
		wantMay(t, none, false)
		wantFits(t, none, "?", "?", false)
		for _, s := range [][]api.Co{nil, {}, list("?"), list("#1ib")} {
			if coerce.Meet(none, s) || coerce.Meet(s, none) {
				t.Errorf("R4: no nodes meet %s", told(s))
			}
			if got, e := coerce.Then(none, s); e != api.ErrShape || len(got) != 0 {
				t.Errorf("R4: Then of no nodes and %s = %s, %d", told(s), told(got), e)
			}
		}
	}
}

// R1: whatever nodes it is given, a call ends.
func TestAnyNodes(t *testing.T) {
	var d dice = 53
	node := func() api.Co {
		return api.Co{Op: int8(d.below(256) - 128), Proj: int64(d.below(5) - 2), Inj: d.coin(), Head: byte(d.below(256)), Label: int64(d.below(3)), From: byte(d.below(256)), To: letters[d.below(8)]}
	}
	for range 20000 {
		var c [2][]api.Co
		for i := range c {
			for range d.below(8) {
				n := node()
				if d.below(8) > 0 {
					n = list(strings.Fields("? i !b 7?t > !> 7?> , l !l x 7?x #1ib 7?#1>i")[d.below(14)])[0]
				}
				c[i] = append(c[i], n)
			}
		}
		wantMay(t, c[0], may(c[0]))
		if !may(c[0]) || !may(c[1]) {
			if got, e := coerce.Then(c[0], c[1]); e != api.ErrShape || len(got) != 0 {
				t.Errorf("P13.5: Then(%s, %s) = %s, %d", told(c[0]), told(c[1]), told(got), e)
			}
			if coerce.Meet(c[0], c[1]) {
				t.Errorf("P13.4: Meet(%s, %s) = true", told(c[0]), told(c[1]))
			}
		}
	}
	for _, n := range ofEachOp() {
		many := slices.Repeat([]api.Co{n}, 1<<20)
		wantMay(t, many, false)
		if coerce.Meet(many, many) {
			t.Error("P13.4: many nodes meet")
		}
	}
}
