package safe_test

import (
	"testing"

	"culprit/api"
	"culprit/relate"
	"culprit/safe"
)

// wantPrecise: of consistent types s is at least as precise as u just if a cast from s to u is safe on the positive side and one from u to s on the negative side.
func wantPrecise(t *testing.T, s, u string) {
	t.Helper()
	if !relate.Consistent(s, u) {
		return
	}
	if precise := relate.Precise(s, u); (safe.Plus(s, u) && safe.Minus(u, s)) != precise {
		t.Errorf("what follows: Plus(%q, %q) = %v, Minus of them turned = %v; as precise: %v", s, u, safe.Plus(s, u), safe.Minus(u, s), precise)
	}
}

func TestTheMorePreciseSideIsNeverBlamed(t *testing.T) {
	all := allTypes(4)
	for _, s := range all {
		for _, u := range all {
			wantPrecise(t, s, u)
		}
	}
	var d dice = 11
	more := 0
	for range 20000 {
		s, u := d.related()
		wantPrecise(t, s, u)
		wantPrecise(t, u, s)
		if s != u && u != "?" && relate.Precise(s, u) {
			more++
		}
	}
	if more < 1000 {
		t.Errorf("only %d of the large types were more precise than others", more)
	}
}

// What follows: a cast from a type to itself is safe on both sides, and one from a ground to ?.
func TestToItselfAndFromAGround(t *testing.T) {
	var d dice = 5
	all := allTypes(5)
	for range 2000 {
		all = append(all, d.typeOf(api.MaxType))
	}
	for _, s := range all {
		wantSafe(t, s, s, true, true)
		if s != "?" && groundOf(s) == s {
			wantSafe(t, s, "?", true, true)
		}
	}
}

// What follows: a cast between types that are not consistent may be safe on one side.
func TestWhatIsNotConsistentMayBeSafeOnOneSide(t *testing.T) {
	if relate.Consistent(">ib", ">bb") {
		t.Error("what follows: >ib and >bb are consistent")
	}
	wantSafe(t, ">ib", ">bb", true, false)
	if got := blamesOf(">ib", ">bb"); got != (blames{context: true}) {
		t.Errorf("what follows: a run of a cast from >ib to >bb blames %+v", got)
	}
}

// What follows: to run a term blames no label against this.
func TestNoRunBlamesWhatIsSafe(t *testing.T) {
	all := allTypes(3)
	for _, s := range all {
		for _, u := range all {
			wantRun(t, s, u)
		}
	}
	for _, s := range []string{">>ib?", ">>?bi", ">i>bt", ">?>??", "x>ib", "x>??", ",>i?l?", ",>?ilb", "l>ix?", "l>?xi", "xxi", "xx?", ">x?b", ">xib", "x,i?", "x,?b"} {
		for _, u := range []string{"?", ">??", ">>???", ">>ibi", ">>?b?", ">i>?t", ">?>bt", "x?", "x>i?", "x>?b", ",??", ",>?il?", ",>iilb", "l>?xb", "l>ixi", "xxi", "xx?", ">x?b", ">xi?", "x,ib", "x,??"} {
			wantRun(t, s, u)
			wantRun(t, u, s)
		}
	}
}

// wantRun runs a cast in many ways. Of consistent types each side that is not safe is really blamed by one of them (of others an argument that is always refused may hide what is behind it).
func wantRun(t *testing.T, s, u string) {
	t.Helper()
	got := blamesOf(s, u)
	plus, minus := safe.Sides(s, u)
	if got.inside && plus || got.context && minus {
		t.Errorf("what follows: a run of a cast from %q to %q blames %+v; told safe: %v, %v", s, u, got, plus, minus)
	}
	if relate.Consistent(s, u) && (got.inside == plus || got.context == minus) {
		t.Errorf("the words of safe: runs of a cast from %q to %q blame %+v; told safe: %v, %v", s, u, got, plus, minus)
	}
}
