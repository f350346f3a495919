package rough_test

import (
	"strings"
	"testing"

	"culprit/api"
	"culprit/code"
	"culprit/rough"
)

// A code in its short text is the one that code.Show writes.
func TestRead(t *testing.T) {
	c := rough.Read("?: fn 1, push 1, pend i ?, tail / i i; xt b: local 2, op Neg, list 1 lt, part Head, cast ? i -3, #99 5 -6, ret")
	want := []string{`num 7`, `num -1`, `text "a"`, `text "bc"`, `type "lt"`, `cast "i" "?" 2.0.1.105.0.0.0`, `cast "?" "i" 2.-3.0.105.0.0.0`,
		`fn : "" "?"`, ` fn 1 0`, ` push 1 0`, ` pend 0 0`, ` tail 0 0`,
		`fn "xt" "b" : "i" "i"`, ` local 2 0`, ` op 16 0`, ` list 1 0`, ` part 22 0`, ` cast 1 0`, ` #99 5 -6`, ` ret 0 0`, ``}
	if got := code.Show(c); got != strings.Join(want, "\n") {
		t.Errorf("%s; not\n%s", got, strings.Join(want, "\n"))
	}
}

// Dealt code may run, and has all that code can have.
func TestDeal(t *testing.T) {
	g := rough.Maker{}
	g.Dice = 209
	ops, ends := map[int8]int{}, map[string]int{}
	for range 2000 {
		c := g.Deal(g.Below(30))
		if trap, _ := rough.Look(c); trap.Err != api.OK {
			t.Fatalf("%s: %v", rough.Written(c), trap)
		}
		for _, f := range c.Functions {
			for _, i := range f.Code {
				ops[i.Op]++
			}
		}
		seen, _ := rough.Run(c, 100, 4)
		ends[strings.TrimRight(strings.Fields(seen)[0], "-0123456789")]++
	}
	for op := code.Push; op <= code.Pend; op++ {
		if ops[op] < 100 {
			t.Errorf("too few %s: %d", code.Name(op), ops[op])
		}
	}
	if ends["stuck"] > 0 || ends["blame"] < 50 || ends["fault"] < 20 || ends["num"] < 100 {
		t.Errorf("too few kinds of runs: %v", ends)
	}
}
