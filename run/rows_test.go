package run_test

import (
	"math"
	"strings"
	"testing"

	"culprit/api"
	"culprit/rough"
	"culprit/sample"
)

// The examples of the chapter that are codes.
func TestExamples(t *testing.T) {
	want(t,
		"i: push, push 1, op Add, ret", "num6 1 0 0",
		"i: fn 1, push, call, push, op Add, ret / i i: local, ret", "num14 2 1 0",
		"b: push, cast i ?, cast ? b 2, ret", "blame2 0 0 0",
		"i: list 0 i, part Head, ret", "fault34 2 0 0",
	)
	c := rough.Read("i: push, op Add")
	c.Nums = []int64{1}
	wantCode(t, c, 4, "ErrStack 0 1")
	wantCode(t, rough.Read("i: truth 1, truth 1, op Add"), 4, "ErrKind 0 2")
}

// What is laid without a step.
func TestLeaves(t *testing.T) {
	want(t,
		"i: push, ret", "num7 0 0 0",
		"i: push 1, ret", "num-1 0 0 0",
		"t: text, ret", `text"a" 0 0 0`,
		"t: text 1, ret", `text"bc" 0 0 0`,
		"b: truth, ret", "truth0 0 0 0",
		"b: truth 1, ret", "truth1 0 0 0",
		">ii: fn 1, ret / i i: local, ret", "fun 0 0 0",
		">ii: rec 1, ret / i i; >ii: local, ret", "fun 0 0 0",
	)
}

// The row: its nearest is at 0; let puts one in front, end takes it away; what ret, jump and the others do leaves it.
func TestRow(t *testing.T) {
	want(t,
		"i: push, let, local, ret", "num7 0 0 0",
		"i: push, let, push 1, let, local, ret", "num-1 0 0 0",
		"i: push, let, push 1, let, local 1, ret", "num7 0 0 0",
		"i: push, let, push 1, let, end, local, ret", "num7 0 0 0",
		"i: push, let, push 1, let, end, end, push, ret", "num7 0 0 0",
		"i: push, let, push 1, let, end, local 1, ret", "ErrLocal 0 5",
		"i: push, let, push 1, let, end, end, end, ret", "ErrRow 0 6",
		",,iit: push, let, text, let, local 1, local 1, pair, local, pair, ret", `pair pair num7 num7 text"a" 2 0 0`,
		// Many, so that what finds them has to leap.
		"li: push, let, push 1, let, push, let, push 1, let, push, let, push 1, let, push, let, push 1, let, push, let, local, local 1, local 2, local 5, local 8, list 5 i, ret", "cons num7 cons num-1 cons num7 cons num-1 cons num7 empty 1 0 0",
	)
}

// Closures have the row as it was when they were laid; rec's has itself ahead of that.
func TestClosures(t *testing.T) {
	want(t,
		"i: push, let, push 1, let, fn 1, end, end, push, call, ret / i i; i i: local, ret", "num7 1 1 0",
		"i: push, let, push 1, let, fn 1, end, end, push, call, ret / i i; i i: local 1, ret", "num-1 1 1 0",
		"i: push, let, push 1, let, fn 1, end, end, push, call, ret / i i; i i: local 2, ret", "num7 1 1 0",
		"i: push, let, push 1, let, fn 1, end, end, push, call, ret / i i; i i: local 3, ret", "ErrLocal 1 0",
		"i: push, let, fn 1, push 1, let, push, call, ret / i i; i: local 1, ret", "num7 1 1 0",
		">ii: push 1, let, rec 1, push, call, ret / i >ii; >i>ii i: local 1, ret", "fun 1 1 0",
		"i: push 1, let, rec 1, push, call, ret / i i; >ii i: local 2, ret", "num-1 1 1 0",
		"i: push 1, let, rec 1, push, call, ret / i i; >ii i: local, ret", "num7 1 1 0",
		"i: push 1, let, rec 1, push, call, ret / i i; >ii i: local 3, ret", "ErrLocal 1 0",
		"i: push 1, let, fn 1, push, call, ret / i i; i: local 2, ret", "ErrLocal 1 0",
		// Itself: not as it is called under a wrapper, but bare. f(n) = if n < 0 then f's own answer, else f(n - 8).
		"i: rec 1, push, call, ret / i i; >ii: local, push 1, op Less, unless 6, local, ret, local 1, local, push, op Sub, push, op Sub, tail", "num-7 8 1 0",
		// One over another: the inner one has the outer one's row behind its own.
		"i: fn 1, push, call, push 1, call, ret / i >ii: push 1, let, fn 2, ret / i i; i i: local 2, local, op Sub, ret", "num8 3 1 0",
	)
}

// Each call begins with an empty stack, and comes back to its own, and to its own row.
func TestCalls(t *testing.T) {
	want(t,
		"i: push 1, let, push, fn 1, push, call, op Sub, local, op Sub, ret / i i: push, let, push, let, push 1, ret", "num9 3 1 0",
		"i: push, fn 1, push, call, ret / i i: ret", "ErrStack 1 0",
		"i: push, fn 1, push, call, ret / i i: op Add", "ErrStack 1 0",
		"i: push, let, fn 1, push, call, end, ret / i i; i: end, end, end, ret", "ErrRow 1 2",
		"i: fn 1, push, call, local, ret / i i: push, let, push, let, local, ret", "ErrLocal 0 3",
		// What a function leaves on its stack is gone.
		"i: push, fn 1, push, call, op Add, ret / i i: push 1, push 1, push 1, local, ret", "num14 2 1 0",
		"i: push, fn 1, push, call, op Add, op Add, ret / i i: push 1, push 1, push 1, local, ret", "ErrStack 0 5",
		"i: push 1, push 1, push, ret", "num7 0 0 0",
		// Behind the return the run goes on at the next place, whatever stands there.
		"i: fn 1, push, call / i i: local, ret", "ErrEnd 0 3",
		"i: fn 1, push, call / i i:", "ErrEnd 1 0",
		// Many at one time, and one after the other.
		"i: fn 1, push, call, ret / i i: fn 2, local, call, ret / i i; i: fn 3, local, call, ret / i i; i i: local 2, ret", "num7 3 3 0",
		"i: fn 1, push, call, let, fn 2, local, call, ret / i i: local, push, op Add, ret / i i; i: fn 1, local, call, ret", "num21 5 2 0",
		// A function as an argument, and called by another one.
		"i: fn 1, fn 2, call, ret / >ii i: local, push, call, ret / i i: local, local, op Mul, ret", "num49 3 2 0",
	)
}

func TestTails(t *testing.T) {
	want(t,
		"i: fn 1, push, tail / i i: local, ret", "num7 1 0 0",
		"i: push 1, push 1, fn 1, push, tail / i i: local, ret", "num7 1 0 0",
		"i: push 1, fn 1, push, tail / i i: ret", "ErrStack 1 0",
		"i: fn 1, push, tail / i i: fn 2, local, tail / i i; i: fn 3, local, tail / i i; i i: local 2, ret", "num7 3 0 0",
		// Behind a return: as many as there were, and the stack of the one that called stays.
		"i: push, fn 1, push, call, op Add, ret / i i: push 1, push 1, fn 2, local, tail / i i; i: push 1, local, ret", "num14 3 1 0",
		"i: push, fn 1, push, call, op Add, op Add, ret / i i: push 1, push 1, fn 2, local, tail / i i; i: push 1, local, ret", "ErrStack 0 5",
		"i: rec 1, push, tail / i i; >ii: local 1, local, tail", "fuel 900 0 0",
	)
}

func TestLeads(t *testing.T) {
	want(t,
		"i: jump 2, #99, push, ret", "num7 0 0 0",
		"i: jump 1, push, ret", "num7 0 0 0",
		"i: push, jump 2, ret", "num7 0 0 0",
		"i: truth, unless 4, push, ret, push 1, ret", "num-1 1 0 0",
		"i: truth 1, unless 4, push, ret, push 1, ret", "num7 1 0 0",
		"i: truth 1, unless 2, push, ret", "num7 1 0 0",
		"i: truth, unless 2, push, ret", "num7 1 0 0",
		"i: truth, unless 4, push, jump 5, push 1, ret", "num-1 1 0 0",
		"i: truth 1, unless 4, push, jump 5, push 1, ret", "num7 1 0 0",
		"i: push, truth, unless 4, push 1, ret", "num7 1 0 0",
		"i: fn 1, push, call, ret / i i: jump 2, #99, truth, unless 5, #99, local, ret", "num7 2 1 0",
	)
}

func TestPairs(t *testing.T) {
	want(t,
		",it: push, text, pair, ret", `pair num7 text"a" 1 0 0`,
		"i: push, text, pair, part First, ret", "num7 2 0 0",
		"t: push, text, pair, part Second, ret", `text"a" 2 0 0`,
		",??: push, text, pair, cast ,it ,??, ret", `pair num7 text"a" 1 0 0`,
		"?: push, text, pair, cast ,it ,??, part First, ret", "num7 2 0 0",
		"i: push, text, pair, cast ,it ,??, cast ,?? ,ib 2, part First, ret", "num7 2 0 0",
		"b: push, text, pair, cast ,it ,??, cast ,?? ,ib 2, part Second, ret", "blame2 2 0 0",
		",ib: push, text, pair, cast ,it ,??, cast ,?? ,ib 2, ret", "pair num7 blame2 1 0 0",
		"?: push, text, pair, cast ,it ?, ret", `pair num7 text"a" 1 0 0`,
	)
}

func TestLists(t *testing.T) {
	want(t,
		"li: list 0 i, ret", "empty 1 0 0",
		"li: push, list 1 i, ret", "cons num7 empty 1 0 0",
		"li: push, push 1, push, list 3 i, ret", "cons num7 cons num-1 cons num7 empty 1 0 0",
		"i: push, push 1, list 1 i, let, ret", "num7 1 0 0",
		"li: push, push 1, list 1 i, cons, ret", "cons num7 cons num-1 empty 2 0 0",
		"li: push, list 0 i, cons, ret", "cons num7 empty 2 0 0",
		"i: push, push 1, list 2 i, part Head, ret", "num7 2 0 0",
		"li: push, push 1, list 2 i, part Tail, ret", "cons num-1 empty 2 0 0",
		"b: push, list 1 i, part Empty, ret", "truth0 2 0 0",
		"b: list 0 i, part Empty, ret", "truth1 2 0 0",
		"i: list 0 i, part Head, ret", "fault34 2 0 0",
		"li: list 0 i, part Tail, ret", "fault34 2 0 0",
		"?: list 0 i, cast li l?, part Head, ret", "fault34 2 0 0",
		"l?: list 0 i, cast li l?, part Tail, ret", "fault34 2 0 0",
		"b: list 0 i, cast li l?, part Empty, ret", "truth1 2 0 0",
		"b: push, list 1 i, cast li l?, part Empty, ret", "truth0 2 0 0",
		"?: push, push 1, list 2 i, cast li l?, part Head, ret", "num7 2 0 0",
		"?: push, push 1, list 2 i, cast li l?, part Tail, part Head, ret", "num-1 3 0 0",
		"b: push, push 1, list 2 i, cast li l?, cast l? lb 2, part Tail, part Head, ret", "blame2 3 0 0",
		"lb: push, push 1, list 2 i, cast li l?, cast l? lb 2, ret", "cons blame2 cons blame2 empty 1 0 0",
	)
}

func TestBoxes(t *testing.T) {
	want(t,
		"xi: push, box, ret", "box 1 0 0",
		"i: push, box, get, ret", "num7 2 0 0",
		// What set lays is what was set, as it was.
		"i: push, box, push 1, set, ret", "num-1 2 0 0",
		"?: push, box, cast xi x?, push 1, cast i ?, set, ret", "num-1 2 0 0",
		"i: push, box, let, local, push 1, set, let, local 1, get, ret", "num-1 3 0 0",
		// Each box has a cell of its own; one box under casts has one.
		"i: push, box, let, push, box, let, local, push 1, set, let, local 2, get, ret", "num7 4 0 0",
		"i: push, box, let, push, box, let, local, push 1, set, let, local 1, get, ret", "num-1 4 0 0",
		"i: push, box, let, local, cast xi x?, let, local, push 1, cast i ?, set, let, local 2, get, ret", "num-1 3 0 0",
		"?: push, box, let, local, cast xi x?, let, local 1, push 1, set, let, local 1, get, ret", "num-1 3 0 0",
		"i: push, box, let, local, cast xi x?, cast x? xi 2, let, local, push 1, set, let, local 2, get, ret", "num-1 3 0 0",
		"?: push, box, cast xi x?, get, ret", "num7 2 0 0",
		"b: push, box, cast xi x?, cast x? xb 2, get, ret", "blame2 2 0 0",
		// A set that blames: who sets is to blame, and the run ends.
		"?: push, box, cast xi x? 3, truth, cast b ?, set, ret", "blame-3 2 0 0",
		"i: push, box, let, local, cast xi x? 3, truth, cast b ?, set, let, local 1, get, ret", "blame-3 2 0 0",
		// Several casts: the outermost one is looked at first.
		"?: push, box, cast xi x? 3, cast x? xb 4, cast xb x? 5, text, cast t ?, set, ret", "blame-5 2 0 0",
		"?: push, box, cast xi x? 3, cast x? xb 4, cast xb x? 5, truth, cast b ?, set, ret", "blame-3 2 0 0",
		"?: push, box, cast xi x? 3, cast x? xb 4, cast xb x? 5, get, ret", "blame4 2 0 0",
		// A box in a box.
		"i: push, box, box, get, get, ret", "num7 4 0 0",
		// A box that is shared by a closure.
		"i: push, box, let, fn 1, push 1, call, let, local 1, get, ret / i i; xi: local 1, local, set, ret", "num-1 4 1 0",
	)
}

func TestTruthsOfNumbers(t *testing.T) {
	want(t,
		"b: push, push 1, op Eq, ret", "truth0 1 0 0",
		"b: push, push, op Eq, ret", "truth1 1 0 0",
		"b: push, push 1, op Less, ret", "truth0 1 0 0",
		"b: push 1, push, op Less, ret", "truth1 1 0 0",
		"b: push, push, op Less, ret", "truth0 1 0 0",
		"i: text 1, op Size, ret", "num2 1 0 0",
		"t: text 1, text, op Join, ret", `text"bca" 1 0 0`,
		"i: push, op Neg, ret", "num-7 1 0 0",
		"i: push, push 1, op Sub, ret", "num8 1 0 0",
		"i: push, push 1, op Mul, ret", "num-7 1 0 0",
	)
}

// Numbers go round at 2^63.
func TestRound(t *testing.T) {
	most, least := int64(math.MaxInt64), int64(math.MinInt64)
	for _, one := range []struct {
		x, y int64
		op   string
		want int64
	}{
		{most, 1, "Add", least}, {least, -1, "Add", most}, {least, least, "Add", 0}, {most, most, "Add", -2},
		{least, 1, "Sub", most}, {most, -1, "Sub", least}, {0, least, "Sub", least}, {least, most, "Sub", 1},
		{most, 2, "Mul", -2}, {least, -1, "Mul", least}, {least, 2, "Mul", 0}, {1 << 32, 1 << 31, "Mul", least}, {1 << 32, -1 << 32, "Mul", 0}, {3037000500, 3037000500, "Mul", -9223372036709301616},
		{7, least, "Neg", least}, {7, most, "Neg", -most}, {7, 0, "Neg", 0},
	} {
		text := "i: push, push 1, op " + one.op + ", ret"
		c := rough.Read(text)
		c.Nums = []int64{one.x, one.y}
		wantCode(t, c, 1, sample.Told([]api.Obs{{Kind: api.ONum, N: one.want}})+" 1 0 0")
	}
	c := rough.Read("b: push, push 1, op Less, ret")
	c.Nums = []int64{least, most}
	wantCode(t, c, 1, "truth1 1 0 0")
	c.Nums = []int64{most, least}
	wantCode(t, c, 1, "truth0 1 0 0")
}

// A Join of MaxBytes bytes, of one more, and of none.
func TestJoin(t *testing.T) {
	c := rough.Read("t: text, text 1, op Join, ret")
	for _, lengths := range [][2]int{{0, 0}, {0, 5}, {5, 0}, {1, api.MaxBytes - 1}, {api.MaxBytes - 1, 1}, {api.MaxBytes, 0}, {0, api.MaxBytes}, {api.MaxBytes / 2, api.MaxBytes / 2}} {
		c.Texts = []string{strings.Repeat("p", lengths[0]), strings.Repeat("q", lengths[1])}
		wantCode(t, c, 1, sample.Told([]api.Obs{{Kind: api.OText, S: c.Texts[0] + c.Texts[1]}})+" 1 0 0")
	}
	for _, lengths := range [][2]int{{1, api.MaxBytes}, {api.MaxBytes, 1}, {api.MaxBytes + 1, 0}, {0, api.MaxBytes + 1}, {api.MaxBytes, api.MaxBytes}, {1 << 20, 1 << 20}} {
		c.Texts = []string{strings.Repeat("p", lengths[0]), strings.Repeat("q", lengths[1])}
		wantCode(t, c, 1, "fault35 1 0 0")
	}
	// A text that the code has may be longer: no Join has made it.
	c = rough.Read("i: text, op Size, ret")
	c.Texts = []string{strings.Repeat("p", api.MaxBytes+5)}
	wantCode(t, c, 1, "num4101 1 0 0")
}
