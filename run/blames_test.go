package run_test

import "testing"

// Each side is blamed wherever a coercion is done: at cast, call, ret, get, set, at what is taken out, and in what is seen.
func TestBlames(t *testing.T) {
	want(t,
		// cast
		"b: push, cast i ?, cast ? b 4, ret", "blame4 0 0 0",
		"b: push, cast i ?, cast ? b -4, ret", "blame-4 0 0 0",
		// call: what is handed in
		"?: fn 1, cast >ii >?? 4, truth, cast b ?, call, ret / i i: local, ret", "blame-4 1 0 0",
		"?: fn 1, cast >ii >?? -4, truth, cast b ?, call, ret / i i: local, ret", "blame4 1 0 0",
		// tail
		"?: fn 1, cast >ii >?? 4, truth, cast b ?, tail / i i: local, ret", "blame-4 1 0 0",
		"?: fn 1, cast >ii >?? -4, truth, cast b ?, tail / i i: local, ret", "blame4 1 0 0",
		// ret: what a function answers, and what waits for it
		"b: fn 1, cast >i? >ib 4, push, call, ret / i ?: local, cast i ?, ret", "blame4 1 1 1",
		"b: fn 1, cast >i? >ib -4, push, call, ret / i ?: local, cast i ?, ret", "blame-4 1 1 1",
		"b: fn 1, push, pend ? b 4, tail / i ?: local, cast i ?, ret", "blame4 1 0 1",
		"b: fn 1, push, pend ? b -4, tail / i ?: local, cast i ?, ret", "blame-4 1 0 1",
		// get
		"b: push, cast i ?, box, cast x? xb 4, get, ret", "blame4 2 0 0",
		"b: push, cast i ?, box, cast x? xb -4, get, ret", "blame-4 2 0 0",
		// set
		"?: push, box, cast xi x? 4, truth, cast b ?, set, ret", "blame-4 2 0 0",
		"?: push, box, cast xi x? -4, truth, cast b ?, set, ret", "blame4 2 0 0",
		// taken out
		"b: push, cast i ?, text, pair, cast ,?t ,bt 4, part First, ret", "blame4 2 0 0",
		"b: push, text, cast t ?, pair, cast ,i? ,ib -4, part Second, ret", "blame-4 2 0 0",
		"b: push, cast i ?, list 1 ?, cast l? lb 4, part Head, ret", "blame4 2 0 0",
		"b: push, cast i ?, list 1 ?, cast l? lb 4, part Empty, ret", "truth0 2 0 0",
		"lb: push, cast i ?, list 1 ?, cast l? lb 4, part Tail, ret", "empty 2 0 0",
		// seen: the run has ended with a value, and blames nobody
		",bt: push, cast i ?, text, pair, cast ,?t ,bt 4, ret", `pair blame4 text"a" 1 0 0`,
		"lb: push, cast i ?, truth, cast b ?, list 2 ?, cast l? lb -4, ret", "cons blame-4 cons truth0 empty 1 0 0",
		"xb: push, cast i ?, box, cast x? xb 4, ret", "box 1 0 0",
		">bb: fn 1, cast >ii >??, cast >?? >bb, ret / i i: local, ret", "fun 0 0 0",
	)
}

// Of several the first one ends the run: what stands behind it is not done.
func TestFirstBlame(t *testing.T) {
	want(t,
		"i: push, cast i ?, cast ? b 4, push, cast i ?, cast ? b 5, op Add, ret", "blame4 0 0 0",
		"?: fn 1, cast >ii >?? 4, push, cast i ?, cast ? b 5, cast b ?, call, ret / i i: local, ret", "blame5 0 0 0",
		"i: list 0 i, part Head, push, cast i ?, cast ? b 5, op Add, ret", "fault34 2 0 0",
		"i: push, cast i ?, cast ? b 5, list 0 i, part Head, op Add, ret", "blame5 0 0 0",
		// What is handed in is blamed ahead of what the function would do, and of what it would answer.
		"b: fn 1, cast >i? >ib 4, cast >ib >?b 6, truth, cast b ?, call, ret / i ?: list 0 i, part Head, ret", "blame-6 1 0 0",
		"b: fn 1, cast >i? >ib 4, push, call, ret / i ?: list 0 ?, part Head, ret", "fault34 3 1 1",
		"b: fn 1, cast >i? >ib 4, push, call, ret / i ?: local, cast i ?, cast ? b 5, cast b ?, ret", "blame5 1 1 1",
		// Of the coercions that wait the latest is done first; each behind its own return.
		"b: fn 1, cast >i? >ib 4, push, call, ret / i ?: fn 2, cast >i? >it 5, local, call, cast t ?, ret / i ?; i: local, cast i ?, ret", "blame5 2 2 2",
		"b: fn 1, cast >i? >ib 4, push, call, ret / i ?: fn 2, cast >i? >it 5, local, pend t ?, tail / i ?; i: local, cast i ?, ret", "blame5 2 1 1",
		"b: fn 1, cast >i? >ib 4, push, call, ret / i ?: fn 2, cast >i? >ii 5, local, pend i ?, tail / i ?; i: local, cast i ?, ret", "blame4 2 1 1",
	)
}

// A set that blames leaves the cell as it was; nothing else is told of it than the blame, and the run ends.
func TestRefusedSet(t *testing.T) {
	want(t,
		"i: push, box, let, local, cast xi x? 4, truth, cast b ?, set, let, push, ret", "blame-4 2 0 0",
		// The pair of the box and what it holds is never seen.
		",xii: push, box, let, local, local, cast xi x? 4, truth, cast b ?, set, let, local 1, get, pair, ret", "blame-4 2 0 0",
	)
}
