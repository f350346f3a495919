package coerce_test

import (
	"slices"
	"strings"
	"testing"

	"culprit/api"
	"culprit/coerce"
	"culprit/safe"
)

func wantOf(t *testing.T, from, to string, label int64, want []api.Co) {
	t.Helper()
	got, e := coerce.Of(from, to, label)
	if e != api.OK || !slices.Equal(got, want) {
		t.Errorf("P13.1: Of(%s, %s, %d) = %s, %d; want %s", from, to, label, told(got), e, told(want))
	}
}

func wantNoOf(t *testing.T, from, to string, label int64, want api.Errno) {
	t.Helper()
	if got, e := coerce.Of(from, to, label); e != want || len(got) != 0 {
		t.Errorf("P13.1: Of(%.70q, %.70q, %d) = %s, %d; want %d", from, to, label, told(got), e, want)
	}
}

func TestOfEachHead(t *testing.T) {
	for _, c := range []struct{ from, to, want string }{
		{"?", "?", "?"},
		{"i", "?", "!i"}, {"b", "?", "!b"}, {"t", "?", "!t"},
		{"?", "i", "5?i"}, {"?", "b", "5?b"}, {"?", "t", "5?t"},
		{"i", "i", "i"}, {"b", "b", "b"}, {"t", "t", "t"},
		// To ? by the ground, and from it.
		{">??", "?", "!>??"}, {",??", "?", "!,??"}, {"l?", "?", "!l?"}, {"x?", "?", "!x??"},
		{"?", ">??", "5?>??"}, {"?", ",??", "5?,??"}, {"?", "l?", "5?l?"}, {"?", "x?", "5?x??"},
		{">ib", "?", "!>-5?i!b"}, {",ib", "?", "!,!i!b"}, {"li", "?", "!l!i"}, {"xi", "?", "!x!i-5?i"},
		{"?", ">ib", "5?>!i5?b"}, {"?", ",ib", "5?,5?i5?b"}, {"?", "li", "5?l5?i"}, {"?", "xi", "5?x5?i!i"},
		// Part by part, the sides turned round where a function is handed something, and where something is set.
		{">ii", ">??", ">-5?i!i"}, {">??", ">ii", ">!i5?i"}, {">?i", ">i?", ">!i!i"}, {">i?", ">?i", ">-5?i5?i"},
		{",i?", ",?i", ",!i5?i"}, {",?b", ",i?", ",5?i!b"}, {"li", "l?", "l!i"}, {"l?", "li", "l5?i"},
		{"xi", "x?", "x!i-5?i"}, {"x?", "xi", "x5?i!i"},
		{">>?it", ">>iit", ">>5?iit"}, {">>iit", ">>?it", ">>!iit"}, {">>i?t", ">>iit", ">>i!it"}, {">>iit", ">>i?t", ">>i-5?it"},
		{"x>?b", "x>ib", "x>!ib>5?ib"}, {"xxi", "xx?", "xx!i-5?ix-5?i!i"}, {">x?b", ">xib", ">x!i5?ib"},
		{">i>ib", ">i>?b", ">i>-5?ib"}, {"l,?x?", "l,ixt", "l,5?ix5?t!t"},
		// A ? within, and what goes through a ground twice.
		{">?>ii", "?", "!>?!>-5?i!i"}, {">>ii?", "?", "!>-5?>!i-5?i?"}, {"?", "lli", "5?l5?l5?i"}, {"lli", "?", "!l!l!i"},
	} {
		wantOf(t, c.from, c.to, 5, list(c.want))
	}
	wantOf(t, ">ii", ">??", -5, list(">5?i!i"))
	wantOf(t, "xi", "x?", -7, list("x!i7?i"))
	for _, n := range someLabels() {
		wantOf(t, "?", "i", n, []api.Co{{Op: api.CoBase, Proj: n, Head: 'i'}})
		wantOf(t, ">i?", ">??", n, []api.Co{{Op: api.CoFun, Head: '>'}, {Op: api.CoBase, Proj: -n, Head: 'i'}, {Op: api.CoAny}})
	}
}

// Each error, and of several the one that is named first.
func TestOfRefuses(t *testing.T) {
	for _, none := range noTypes() {
		for _, other := range []string{"i", "?", ">ib", strings.Repeat("l", 63) + "i"} {
			wantNoOf(t, none, other, 5, api.ErrShape)
			wantNoOf(t, other, none, 5, api.ErrShape)
			wantNoOf(t, none, other, 0, api.ErrShape)
			wantNoOf(t, other, none, 0, api.ErrShape)
		}
		wantNoOf(t, none, none, 5, api.ErrShape)
	}
	for _, c := range [][2]string{{"i", "b"}, {"i", "li"}, {">ii", ",ii"}, {"li", "xi"}, {">i?", ">b?"}, {">?i", ">?b"}, {",i?", ",t?"}, {",?i", ",?t"}, {"li", "lb"}, {"xi", "xt"}, {"llx?", "lll?"}} {
		wantNoOf(t, c[0], c[1], 5, api.ErrType)
		wantNoOf(t, c[1], c[0], 5, api.ErrType)
		wantNoOf(t, c[0], c[1], 0, api.ErrType)
		wantNoOf(t, c[0], c[1], 1<<31, api.ErrType)
	}
	for _, none := range noLabels() {
		for _, c := range [][2]string{{"?", "?"}, {"i", "i"}, {"i", "?"}, {"?", "i"}, {">ib", ">??"}, {"xi", "x?"}} {
			wantNoOf(t, c[0], c[1], none, api.ErrNumber)
		}
	}
}

// Of all types of at most 4 letters: the chapter's words, what may be, fits, is an identity just if nothing is cast; its labels are those that the cast is not safe from.
func TestOfEveryTwoShortTypes(t *testing.T) {
	all := allTypes(4)
	for _, from := range all {
		for _, to := range all {
			if !consistent(from, to) {
				wantNoOf(t, from, to, 5, api.ErrType)
				continue
			}
			wantOf(t, from, to, 5, of(from, to, 5).list())
			wantOfTypes(t, from, to)
		}
	}
}

func wantOfTypes(t *testing.T, from, to string) {
	t.Helper()
	c, _ := coerce.Of(from, to, 5)
	wantMay(t, c, true)
	if !coerce.Fits(c, from, to) {
		t.Errorf("P13.3: Of(%s, %s, 5) = %s does not fit", from, to, told(c))
	}
	if coerce.IsId(c) != (from == to) {
		t.Errorf("P13.2: IsId(Of(%s, %s, 5)) = %v", from, to, from != to)
	}
	plus, minus := safe.Sides(from, to)
	used := labelsOf(c)
	if slices.Contains(used, 5) == plus || slices.Contains(used, -5) == minus || slices.ContainsFunc(used, func(n int64) bool { return n != 5 && n != -5 }) {
		t.Errorf("P13.1: Of(%s, %s, 5) = %s; the cast is safe: %v, %v", from, to, told(c), plus, minus)
	}
}

// labelsOf answers all labels that a coercion may blame.
func labelsOf(c []api.Co) []int64 {
	var all []int64
	for _, n := range c {
		if n.Proj != 0 {
			all = append(all, n.Proj)
		}
		if n.Label != 0 {
			all = append(all, n.Label)
		}
	}
	return all
}

func TestOfManyLargeTypes(t *testing.T) {
	var d dice = 21
	seen := 0
	for seen < 4000 {
		from := d.typeOf(1 + d.below(api.MaxType))
		to := d.near(from)
		if len(to) > api.MaxType || strings.Count(from+to, "x") > 14 || !consistent(from, to) {
			continue
		}
		seen++
		n := d.label()
		wantOf(t, from, to, n, of(from, to, n).list())
		wantOfTypes(t, from, to)
		wantOfTypes(t, to, from)
	}
}

// Types of MaxType letters are as high as may be.
func TestOfTheHighestTypes(t *testing.T) {
	deep := strings.Repeat("l", 63)
	for _, c := range [][2]string{{deep + "i", deep + "i"}, {deep + "i", deep + "?"}, {deep + "?", deep + "i"}, {deep + "i", "?"}, {"?", deep + "i"}, {"?", deep + "?"}} {
		wantOf(t, c[0], c[1], 9, of(c[0], c[1], 9).list())
		wantOfTypes(t, c[0], c[1])
		if l, _ := coerce.Of(c[0], c[1], 9); coerce.Height(l) != 64 {
			t.Errorf("P13.1: Of(%s, %s, 9) has the height %d", c[0], c[1], coerce.Height(l))
		}
	}
	turns := strings.Repeat(">", 31)
	wantOf(t, turns+"?"+strings.Repeat("i", 31), turns+"i"+strings.Repeat("?", 31), 1, of(turns+"?"+strings.Repeat("i", 31), turns+"i"+strings.Repeat("?", 31), 1).list())
}

// Boxes in boxes: each doubles what is below it; how many nodes there are is told ahead.
func TestOfBoxesInBoxes(t *testing.T) {
	for deep := range 13 {
		from, to := strings.Repeat("x", deep)+"i", strings.Repeat("x", deep)+"?"
		c, _ := coerce.Of(from, to, 3)
		if len(c) != 1<<(deep+1)-1 || coerce.Height(c) != deep+1 {
			t.Errorf("P13.1: Of(%s, %s, 3) has %d nodes, the height %d", from, to, len(c), coerce.Height(c))
		}
		wantOf(t, from, to, 3, of(from, to, 3).list())
		wantOfTypes(t, from, to)
		wantOfTypes(t, to, from)
	}
}

// R1: where more nodes would be answered than can be the call ends, and what is refused for another reason is refused for that one.
func TestOfMoreThanCanBe(t *testing.T) {
	boxes := strings.Repeat("x", 63)
	for _, c := range [][2]string{{boxes + "i", boxes + "i"}, {boxes + "i", "?"}, {"?", boxes + "?"}, {boxes[:31] + "i", boxes[:31] + "?"}, {",i" + boxes[:60] + "i", "?"}} {
		wantNoOf(t, c[0], c[1], 5, api.ErrMany)
		wantNoOf(t, c[0], c[1], 0, api.ErrNumber)
	}
	wantNoOf(t, boxes+"i", boxes+"b", 5, api.ErrType)
	wantNoOf(t, boxes+"xi", boxes+"xi", 5, api.ErrShape)
}
