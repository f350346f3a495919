package code_test

import (
	"math"
	"slices"
	"strings"
	"testing"

	"culprit/api"
	"culprit/code"
)

// nodes: a list by letters, each an op: ? any, i base, > fun, "," pair, l list, x box, # fail, and z one that is none.
func nodes(letters string) []api.Co {
	var l []api.Co
	for _, b := range []byte(letters) {
		n := api.Co{Op: int8(strings.IndexByte("z?i>,lx#", b)), Head: b}
		if n.Op == 0 {
			n.Op = 77
		}
		l = append(l, n)
	}
	return l
}

func wantHeight(t *testing.T, want int, lists ...[]api.Co) {
	t.Helper()
	var c api.Code
	for _, l := range lists {
		c.Casts = append(c.Casts, api.Waits{From: "i", To: "?", Co: l})
	}
	if got := code.Height(c); got != want {
		t.Errorf("P18.3: Height of %s = %d; want %d", told(lists), got, want)
	}
}

func TestHeights(t *testing.T) {
	for _, c := range []struct {
		letters string
		want    int
	}{
		{"?", 1}, {"i", 1}, {"#", 1}, {"z", 1},
		{">ii", 2}, {",??", 2}, {"li", 2}, {"xi?", 2}, {"l#", 2}, {">z#", 2}, {"lz", 2},
		{">lii", 3}, {">ili", 3}, {",lii", 3}, {",ili", 3}, {"xlii", 3}, {"xili", 3}, {"lli", 3}, {"l,ii", 3}, {">ii", 2}, {">>iii", 3}, {">i>ii", 3}, {",,ii,ii", 3}, {"xx??x??", 3},
		{",lllii", 5}, {",illli", 5}, {",lillli", 5}, {",llllili", 6}, {">,i,i,iii", 5}, {",>ii>i>i>ii", 5},
	} {
		wantHeight(t, c.want, nodes(c.letters))
	}
}

// Of a list that is not just one node from its beginning to its end there is no height.
func TestNotWhole(t *testing.T) {
	wantHeight(t, 0, nil)
	wantHeight(t, 0, []api.Co{})
	for _, letters := range strings.Fields("> >i , ,i l x xi >>ii >i> ,,ii ,,i ll lx lxi lli, xxii >iii ,iii lii xiii ii ?? i? zi iz #i i# zz lil l?l? ,iill ,iii> >ii>ii") {
		wantHeight(t, 0, nodes(letters))
		wantHeight(t, 0, nodes(letters), nodes(letters))
	}
	for _, letters := range strings.Fields(">ii ,lii xi>ii lll? ,,i>iili") {
		l := nodes(letters)
		for end := range l {
			wantHeight(t, 0, l[:end])
		}
		for from := 1; from < len(l); from++ {
			rest := l[from:]
			if len(rest) > 1 && kids(rest[0].Op) == 0 {
				wantHeight(t, 0, rest)
			}
		}
		for _, more := range strings.Fields("? i z # l >ii") {
			wantHeight(t, 0, append(slices.Clone(l), nodes(more)...))
		}
	}
}

// kids: how many kids a node of a coercion has, by the chapter.
func kids(op int8) int {
	return map[int8]int{api.CoFun: 2, api.CoPair: 2, api.CoBox: 2, api.CoList: 1}[op]
}

// Whatever else stands in a node, its op alone says how many kids it has: of those that are no ops, none.
func TestHeightOfEveryOp(t *testing.T) {
	for op := math.MinInt8; op <= math.MaxInt8; op++ {
		for _, n := range []api.Co{{Op: int8(op)}, {Op: int8(op), Proj: -3, Inj: true, Head: '>', Label: math.MinInt64, From: 'x', To: 255}} {
			for many := range 5 {
				want := 0
				if many == kids(n.Op) {
					want = min(many, 1) + 1
				}
				wantHeight(t, want, append([]api.Co{n}, nodes(strings.Repeat("i", many))...))
				if want > 0 {
					wantHeight(t, want+1, append([]api.Co{{Op: api.CoList}, n}, nodes(strings.Repeat("z", many))...))
				}
			}
		}
	}
}

// Of several casts the highest counts, wherever it stands; those that are not whole do not.
func TestTheGreatestHeight(t *testing.T) {
	if got := code.Height(api.Code{}); got != 0 {
		t.Errorf("P18.3: Height of no casts = %d", got)
	}
	low, high, longer, broken := nodes("i"), nodes("llli"), nodes(",,,iiii"), nodes("llllll")
	wantHeight(t, 4, low, high)
	wantHeight(t, 4, high, low)
	wantHeight(t, 4, low, high, low)
	wantHeight(t, 4, longer, low)
	wantHeight(t, 4, broken, high)
	wantHeight(t, 4, high, broken)
	wantHeight(t, 1, broken, low, nil)
	wantHeight(t, 2, low, low, nodes("li"), low)
	wantHeight(t, 0, broken, nil, nodes("ii"))
	// Coercions stand apart: what one has too few, the next one does not give.
	wantHeight(t, 0, nodes("l"), nodes(">i"))
	wantHeight(t, 1, nodes("l"), nodes("i"))
}

// toldHeight follows the chapter's words: the height of the node at the beginning, and what stands behind it.
func toldHeight(l []api.Co) (high int, behind []api.Co, ok bool) {
	if len(l) == 0 {
		return 0, nil, false
	}
	behind = l[1:]
	for range kids(l[0].Op) {
		var of int
		if of, behind, ok = toldHeight(behind); !ok {
			return 0, nil, false
		}
		high = max(high, of)
	}
	return high + 1, behind, true
}

func TestHeightOfAllShortLists(t *testing.T) {
	whole := 0
	lists := []string{""}
	for range 6 {
		var longer []string
		for _, letters := range lists {
			for _, b := range strings.Split("?z>,lx", "") {
				l := nodes(letters + b)
				high, behind, ok := toldHeight(l)
				if !ok || len(behind) > 0 {
					high = 0
				} else {
					whole++
				}
				wantHeight(t, high, l)
				longer = append(longer, letters+b)
			}
		}
		lists = longer
	}
	if whole < 500 {
		t.Errorf("only %d lists are whole", whole)
	}
}

func TestSizes(t *testing.T) {
	some := func(n int) api.Function { return api.Function{Env: []string{"i"}, Code: make([]api.Ins, n)} }
	for _, c := range []struct {
		functions []api.Function
		want      int
	}{
		{nil, 0}, {[]api.Function{}, 0}, {[]api.Function{some(0)}, 0}, {[]api.Function{some(1)}, 1}, {[]api.Function{some(3)}, 3},
		{[]api.Function{some(3), some(0), some(4)}, 7}, {[]api.Function{some(0), some(0)}, 0}, {[]api.Function{some(1), some(1), some(1)}, 3},
		{[]api.Function{some(api.MaxCode), some(1)}, api.MaxCode + 1},
	} {
		all := api.Code{Functions: c.functions, Nums: []int64{1, 2}, Texts: []string{"a"}, Types: []string{"i"}, Casts: []api.Waits{{Co: nodes("i")}}}
		if got := code.Size(all); got != c.want {
			t.Errorf("P18.3: Size = %d; want %d", got, c.want)
		}
	}
}
