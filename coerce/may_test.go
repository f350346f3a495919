package coerce_test

import (
	"math"
	"slices"
	"strings"
	"testing"

	"culprit/api"
	"culprit/coerce"
)

// withKids: a node over kids that begin and end in ?, so that any Proj and Inj may stand over them.
func withKids(n api.Co) []api.Co {
	l := []api.Co{n}
	for range kidsOf(n.Op) {
		l = append(l, api.Co{Op: api.CoAny})
	}
	return l
}

// ofEachOp: a node of each op, as bare as it may be.
func ofEachOp() []api.Co {
	return []api.Co{{Op: api.CoAny}, {Op: api.CoBase, Head: 'i'}, {Op: api.CoFun, Head: '>'}, {Op: api.CoPair, Head: ','}, {Op: api.CoList, Head: 'l'}, {Op: api.CoBox, Head: 'x'}, {Op: api.CoFail, Head: 'i', From: 'i', To: 'b', Label: 1}}
}

// Each field of each op: what may stand there, and what must be zero.
func TestFieldsOfEachOp(t *testing.T) {
	for _, n := range ofEachOp() {
		wantMay(t, withKids(n), true)
		fields, letters := named(n.Op)
		has := func(field string) bool { return strings.Contains(" "+fields+" ", " "+field+" ") }
		with := func(change func(*api.Co), want bool) {
			t.Helper()
			m := n
			change(&m)
			wantMay(t, withKids(m), want)
		}
		with(func(m *api.Co) { m.Inj = true }, has("Inj"))
		for _, l := range someLabels() {
			with(func(m *api.Co) { m.Proj = l }, has("Proj"))
			with(func(m *api.Co) { m.Label = l }, has("Label"))
			with(func(m *api.Co) { m.Proj, m.Inj = l, true }, has("Proj") && has("Inj"))
		}
		for _, l := range noLabels() {
			with(func(m *api.Co) { m.Proj = l }, l == 0)
			with(func(m *api.Co) { m.Label = l }, l == 0 && !has("Label"))
		}
		for letter := range 256 {
			b := byte(letter)
			is := strings.IndexByte(heads, b) >= 0
			if n.Op != api.CoFail {
				with(func(m *api.Co) { m.Head = b }, strings.IndexByte(letters, b) >= 0)
				with(func(m *api.Co) { m.From = b }, b == 0)
				with(func(m *api.Co) { m.To = b }, b == 0)
				continue
			}
			with(func(m *api.Co) { m.Head = b }, b == 'i')
			with(func(m *api.Co) { m.From = b }, b == 'i')
			with(func(m *api.Co) { m.Head, m.From = b, b }, is && b != 'b')
			with(func(m *api.Co) { m.To = b }, is && b != 'i')
		}
	}
}

// The letters of a failure: each with each other one.
func TestLettersOfFailures(t *testing.T) {
	for _, from := range []byte(letters) {
		for _, to := range []byte(letters) {
			want := from != to && from != '?' && to != '?'
			for _, proj := range []int64{0, 3, -3} {
				wantMay(t, []api.Co{{Op: api.CoFail, Proj: proj, Head: from, From: from, To: to, Label: -1}}, want)
			}
		}
	}
}

func TestOpsThatAreNone(t *testing.T) {
	for op := math.MinInt8; op <= math.MaxInt8; op++ {
		if op >= int(api.CoAny) && op <= int(api.CoFail) {
			continue
		}
		for _, head := range []byte("\x00ibt>,lx?") {
			n := api.Co{Op: int8(op), Head: head}
			for _, kids := range []string{"", "i", "ii", "?", "??"} {
				wantMay(t, append([]api.Co{n}, list(kids)...), false)
			}
			wantMay(t, append(list("l"), n), false)
			wantMay(t, append(list(",i"), n), false)
		}
	}
}

// With an Inj or a Proj the kids must begin and end in ? as the chapter says.
func TestWhatStandsOverKids(t *testing.T) {
	for _, c := range []struct{ inj, proj string }{
		// Kids that an Inj may stand over, kids that a Proj may.
		{">?? >1?i? >1?i!i >?!i >1?!i? >?#3ib >2?#3ib? >1?i#3ib >??", ">?? >!i? >!i1?i >?1?i >1?!i? >#3ib? >?2?#3ib >#3ib1?i >??"},
		{",?? ,!i? ,!i!b ,?!i ,1?!i? ,#3ib? ,?#3ib ,#3ib#3ib", ",?? ,1?i? ,1?i2?b ,?1?i ,1?!i? ,2?#3ib? ,?2?#3ib"},
		{"l? l!i l1?!i l#3ib l2?#3ib l!l!i", "l? l1?i l1?!i l2?#3ib l1?l1?i"},
		{"x?? x!i? x!i1?i x?1?i x1?!i? x#3ib? x?2?#3ib", "x?? x1?i? x1?i!i x?!i x1?!i? x2?#3ib? x?#3ib"},
	} {
		for _, s := range strings.Fields(c.inj) {
			wantMay(t, list(s), true)
			wantMay(t, list("!"+s), true)
		}
		for _, s := range strings.Fields(c.proj) {
			wantMay(t, list(s), true)
			wantMay(t, list("7?"+s), true)
		}
	}
	for _, s := range strings.Fields("!>ii !>i? !>?i !>!i? !>?1?i !>#3ib? !,ii !,i? !,?i !,1?i? !,?1?i !li !l1?i !lli !xii !xi? !x?i !x1?i? !x?!i !x?#3ib" +
		" 7?>ii 7?>i? 7?>?i 7?>1?i? 7?>?!i 7?>?#3ib 7?,ii 7?,i? 7?,?i 7?,!i? 7?,?!i 7?,#3ib? 7?,?#3ib 7?li 7?l!i 7?l#3ib 7?xii 7?xi? 7?x?i 7?x!i? 7?x?1?i 7?x#3ib? 7?x?2?i" +
		" 7?!>1?i? 7?!>?1?i 7?!>!i? 7?!>?!i 7?!l!i 7?!l1?i 7?!l#3ib 7?!,!i? 7?!,?1?i 7?!x!i? 7?!x?!i !? 7?? 7?!? !#3ib 7?!#3ib") {
		wantMay(t, list(s), false)
		wantMay(t, list("l"+s), false)
		wantMay(t, list(",i"+s), false)
		wantMay(t, list(">"+s+"i"), false)
	}
	for _, s := range strings.Fields("7?!>?? 7?!>1?!i? 7?!>?1?!i 7?!>2?#3ib? 7?!>?2?#3ib 7?!l? 7?!l1?!i 7?!l2?#3ib 7?!,?1?!i 7?!x?? 7?!x1?!i1?!i 7?!x2?#3ib2?#3ib") {
		wantMay(t, list(s), true)
	}
}

// Too few nodes, and too many.
func TestTooFewAndTooMany(t *testing.T) {
	wantMay(t, nil, false)
	wantMay(t, []api.Co{}, false)
	for _, s := range strings.Fields("> >i , ,i l x xi >>ii >i> ,,ii ll lx xxii 7?> !l ii ?? i? >iii ,iii lii xiii l?? #1ib#1ib !i!i l#1ib? ,>ii >lil") {
		wantMay(t, list(s), false)
	}
	for _, s := range strings.Fields(">ii ,ii li xii >>iii >i>ii ,,iii ll? xxiii xixii >lili ,x??l?") {
		wantMay(t, list(s), true)
		wantMay(t, list(s+"i"), false)
		wantMay(t, list(s+"?"), false)
		for end := range list(s) {
			wantMay(t, list(s)[:end], false)
		}
	}
}

// At MaxNest all is as below it; one beyond may not be.
func TestTheHighest(t *testing.T) {
	for _, step := range []string{"l", ">i", ",i", "xi"} {
		for _, leaf := range []string{"i", "?", "!b", "3?t", "#1ib"} {
			high := list(strings.Repeat(step, 63) + leaf)
			wantMay(t, high, true)
			if h := coerce.Height(high); h != 64 {
				t.Errorf("P13.2: Height(%s) = %d; want 64", told(high), h)
			}
			wantMay(t, list(strings.Repeat(step, 64)+leaf), false)
			wantMay(t, list(strings.Repeat(step, 200)+leaf), false)
			wantMay(t, list(",i"+strings.Repeat(step, 63)+leaf), false)
			wantMay(t, list(",i"+strings.Repeat(step, 62)+leaf), true)
		}
	}
	for _, step := range []string{">", ",", "x"} {
		wantMay(t, list(strings.Repeat(step, 63)+strings.Repeat("i", 64)), true)
		wantMay(t, list(strings.Repeat(step, 64)+strings.Repeat("i", 65)), false)
	}
	wantMay(t, list(strings.Repeat("l", 1<<16)), false)
	wantMay(t, list(strings.Repeat("!l", 63)+"?"), true)
	wantMay(t, list(strings.Repeat("4?l", 64)+"?"), false)
}

func TestHeightAndIsId(t *testing.T) {
	for _, c := range []struct {
		s  string
		h  int
		id bool
	}{
		{"?", 1, true}, {"i", 1, true}, {"b", 1, true}, {"t", 1, true}, {"!i", 1, false}, {"5?i", 1, false}, {"5?!i", 1, false}, {"#1ib", 1, false}, {"5?#1ib", 1, false},
		{">ii", 2, true}, {",?t", 2, true}, {"l?", 2, true}, {"xb?", 2, true}, {"!l?", 2, false}, {"5?l?", 2, false}, {"!>??", 2, false}, {"5?x??", 2, false},
		{">!ii", 2, false}, {">i5?i", 2, false}, {",#1ibi", 2, false}, {",i#1ib", 2, false}, {"l!i", 2, false}, {"x5?ii", 2, false}, {"xi!i", 2, false},
		{",li5?i", 3, false}, {",lii", 3, true}, {",ili", 3, true}, {">,iii", 3, true}, {"xxiii", 3, true}, {"xixii", 3, true}, {",,i,iii", 4, true}, {",,i,ii!i", 4, false}, {"lll!i", 4, false}, {"lll?", 4, true},
	} {
		wantMay(t, list(c.s), true)
		if h, id := coerce.Height(list(c.s)), coerce.IsId(list(c.s)); h != c.h || id != c.id {
			t.Errorf("P13.2: Height, IsId of %s = %d, %v; want %d, %v", c.s, h, id, c.h, c.id)
		}
	}
}

// Every list of at most 3 nodes from a stock of nodes, some of which may not be.
func TestMayOfAllShortLists(t *testing.T) {
	nodes := list("?!?7??i!i7?i7?!i>!>7?>7?!>,!,l!l7?l7?!lx!x7?x#1ib7?#1ib#1iiz")
	count := map[bool]int{}
	var visit func(l []api.Co, more int)
	visit = func(l []api.Co, more int) {
		want := may(l)
		count[want]++
		wantMay(t, l, want)
		if more == 0 {
			return
		}
		for _, n := range nodes {
			visit(append(slices.Clone(l), n), more-1)
		}
	}
	visit(nil, 3)
	if count[true] < 300 || count[false] < 3000 {
		t.Errorf("too few kinds of lists: %v", count)
	}
}

func TestMayOfManyLists(t *testing.T) {
	var d dice = 4
	count := map[bool]int{}
	for range 30000 {
		c, _, _ := d.dealt()
		l := c.list()
		if !may(l) {
			t.Fatalf("what is dealt may not be: %s", told(l))
		}
		wantMay(t, l, true)
		if h, id := coerce.Height(l), coerce.IsId(l); h != c.high() || id != c.isId() {
			t.Errorf("P13.2: Height, IsId of %s = %d, %v", told(l), h, id)
		}
		for range 1 + d.below(2) {
			if len(l) > 0 {
				l = d.spoilt(l)
			}
		}
		count[may(l)]++
		wantMay(t, l, may(l))
	}
	if count[true] < 3000 || count[false] < 3000 {
		t.Errorf("too few kinds of lists: %v", count)
	}
}
