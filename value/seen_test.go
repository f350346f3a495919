package value_test

import (
	"math"
	"slices"
	"strings"
	"testing"

	"culprit/api"
	"culprit/value"
)

func wantSeen(t *testing.T, what string, v value.Value, depth int, want string) {
	t.Helper()
	if got := told(value.Seen(v, depth)); got != want {
		t.Errorf("P14.8: Seen of %s with depth %d: %.300s; want %.300s", what, depth, got, want)
	}
}

// Each kind, bare, tagged and wrapped: at depth 1, at more, and below 1.
func TestSeenOfEachKind(t *testing.T) {
	at1 := map[string]string{"a number": "5", "a text": `"a"`, "a truth": "truth:1", "a function": "fun", "a box": "box", "a pair": "pair deep deep", "the empty list": "empty", "a list": "cons deep deep"}
	at2 := map[string]string{"a pair": "pair 1 2", "a list": "cons 1 empty"}
	for name, v := range kinds(t) {
		for _, k := range oneOfEach() {
			if name != k.name && !strings.HasPrefix(name, k.name+",") && !strings.HasPrefix(name, k.name+" in") {
				continue
			}
			more := at2[k.name]
			if more == "" {
				more = at1[k.name]
			}
			for _, depth := range []int{0, -1, math.MinInt} {
				wantSeen(t, name, v, depth, "deep")
			}
			wantSeen(t, name, v, 1, at1[k.name])
			for _, depth := range []int{2, 3, api.MaxObs, math.MaxInt} {
				wantSeen(t, name, v, depth, more)
			}
		}
	}
	wantSeen(t, "a truth", value.Truth(false), 1, "truth:0")
	wantSeen(t, "a number", value.Num(math.MinInt64), 1, "-9223372036854775808")
	wantSeen(t, "a text", value.Text(""), 1, `""`)
	wantSeen(t, "a text", value.Text("\xff\x00\""), 1, `"\xff\x00\""`)
	wantSeen(t, "a text", value.Text(strings.Repeat("long", 3000)), 1, `"`+strings.Repeat("long", 3000)+`"`)
	for _, code := range []any{nil, 1, "f"} {
		wantSeen(t, "a function", value.Fun(code), 1, "fun")
		wantSeen(t, "a box", value.Box(code), 1, "box")
	}
}

func TestSeenOfNone(t *testing.T) {
	wantSeen(t, "none", nil, 1, "fault:32")
	wantSeen(t, "none", nil, 9, "fault:32")
	wantSeen(t, "none", nil, 0, "deep")
	wantSeen(t, "none", nil, -5, "deep")
	one := value.Num(1)
	wantSeen(t, "a pair of none", value.Pair(nil, nil), 9, "pair fault:32 fault:32")
	wantSeen(t, "a pair of none", value.Pair(nil, one), 2, "pair fault:32 1")
	wantSeen(t, "a pair of none", value.Pair(one, nil), 2, "pair 1 fault:32")
	wantSeen(t, "a list of none", value.Cons(nil, value.Nil()), 9, "cons fault:32 empty")
	wantSeen(t, "a list without a rest", value.Cons(one, nil), 9, "cons 1 fault:32")
	wantSeen(t, "a list of what is no list", value.Cons(one, one), 9, "cons 1 1")
}

// Depth: each pair and each rest of a list is one deeper.
func TestSeenByDepth(t *testing.T) {
	one := value.Num(1)
	l := value.Cons(one, value.Cons(value.Pair(one, one), value.Cons(one, value.Nil())))
	wantSeen(t, "a list", l, 1, "cons deep deep")
	wantSeen(t, "a list", l, 2, "cons 1 cons deep deep")
	wantSeen(t, "a list", l, 3, "cons 1 cons pair deep deep cons deep deep")
	wantSeen(t, "a list", l, 4, "cons 1 cons pair 1 1 cons 1 empty")
	wantSeen(t, "a list", l, 5, "cons 1 cons pair 1 1 cons 1 empty")
	p := value.Pair(value.Pair(one, value.Nil()), value.Text("a"))
	wantSeen(t, "a pair", p, 2, `pair pair deep deep "a"`)
	wantSeen(t, "a pair", p, 3, `pair pair 1 empty "a"`)
	// A tag, a wrapper cost no depth.
	wantSeen(t, "a tagged pair", tag(t, p, ",??"), 2, `pair pair deep deep "a"`)
	wantSeen(t, "a tagged pair in a tag", tag(t, tag(t, p, ",??"), "i"), 2, `pair pair deep deep "a"`)
	wantSeen(t, "a pair in casts", casts(t, p, ",,ilit", ",,??t", ",??"), 2, `pair pair deep deep "a"`)
	wantSeen(t, "a pair in casts", casts(t, p, ",,ilit", ",,??t", ",??"), 3, `pair pair 1 empty "a"`)
}

// Parts that are blamed, and parts that are stuck; also where a part that is there would be too deep.
func TestSeenBlameAndFault(t *testing.T) {
	one := value.Num(1)
	p := casts(t, value.Pair(one, value.Text("a")), ",it", ",??", ",ib")
	wantSeen(t, "a pair", p, 4, "pair 1 blame:2")
	wantSeen(t, "a pair", p, 2, "pair 1 blame:2")
	wantSeen(t, "a pair", p, 1, "pair deep blame:2")
	wantSeen(t, "a pair", p, 0, "deep")
	wantSeen(t, "a pair", coerced(t, value.Pair(one, one), ",#-3ib#4it"), 4, "pair blame:-3 blame:4")
	wantSeen(t, "a pair", casts(t, value.Pair(one, one), ",??", ",ib"), 4, "pair fault:32 fault:32")
	wantSeen(t, "a pair", casts(t, value.Pair(one, one), ",??", ",ib"), 1, "pair fault:32 fault:32")
	l := casts(t, value.Cons(one, value.Cons(value.Text("a"), value.Nil())), "l?", "li")
	wantSeen(t, "a list of no tags", l, 4, "cons fault:32 cons fault:32 empty")
	l = casts(t, value.Cons(tag(t, one, "i"), value.Cons(tag(t, value.Text("a"), "t"), value.Nil())), "l?", "li")
	wantSeen(t, "a list", l, 4, "cons 1 cons blame:1 empty")
	wantSeen(t, "a list", value.Cons(one, casts(t, l, "li", "l?", "lb")), 5, "cons 1 cons blame:2 cons blame:1 empty")
	// A rest that does not meet its list's middle.
	wantSeen(t, "a list", coerced(t, value.Cons(one, coerced(t, value.Nil(), "l!i")), "l!i"), 4, "cons 1 fault:32")
	// Blame in the parts of parts.
	deep := casts(t, value.Pair(value.Cons(one, value.Nil()), value.Pair(one, one)), ",li,ii", ",?,??", ",lb,i?", ",l?,??", ",l?,t?")
	wantSeen(t, "a pair of parts", deep, 4, "pair cons blame:2 empty pair blame:4 1")
	wantSeen(t, "a tagged one", tag(t, p, ",??"), 4, "pair 1 blame:2")
}

// Whatever the wrappers are: what is no pair and no list is seen under them; of pairs and lists the parts are stuck.
func TestSeenUnderOtherWrappers(t *testing.T) {
	bare := map[string]string{"a number": "5", "a text": `"a"`, "a truth": "truth:1", "a function": "fun", "a box": "box", "the empty list": "empty"}
	for _, k := range oneOfEach() {
		for _, head := range []byte(">,lx") {
			for _, byCast := range []bool{true, false} {
				v := wrapped(t, wrapped(t, k.v, 'l', !byCast), head, byCast)
				want := bare[k.name]
				switch k.name {
				case "a pair":
					want = "pair fault:32 fault:32"
				case "a list":
					// Of the right wrappers the parts are cast from ?, but have no tag.
					want = "cons fault:32 fault:32"
					if head == 'l' {
						want = "cons fault:32 empty"
					}
				}
				wantSeen(t, k.name, v, 9, want)
			}
		}
	}
	// A tag under wrappers: what is in it, without them.
	in := tag(t, casts(t, value.Pair(value.Num(1), value.Num(2)), ",ii", ",??", ",bi"), ",??")
	for _, head := range []byte(">,lx") {
		for _, byCast := range []bool{true, false} {
			wantSeen(t, "a tag in a wrapper", wrapped(t, in, head, byCast), 9, "pair blame:2 2")
			wantSeen(t, "a tag in a wrapper", wrapped(t, in, head, byCast), 1, "pair blame:2 deep")
		}
	}
}

func listOf(n int) value.Value {
	l := value.Nil()
	for i := range n {
		l = value.Cons(value.Num(int64(n-i)), l)
	}
	return l
}

// listSeen: n parts of a list, and then an end.
func listSeen(n int, end string) string {
	s := strings.Builder{}
	for i := range n {
		s.WriteString(told([]api.Obs{{Kind: api.OCons}, {Kind: api.ONum, N: int64(i + 1)}}) + " ")
	}
	return s.String() + end
}

// At MaxObs nodes, and beyond.
func TestSeenAtTheLimit(t *testing.T) {
	// A list of n has 2n + 1 nodes: 999 of them fit in, with 1999; a thousandth would need 2001.
	for _, n := range []int{998, 999} {
		wantSeen(t, "a long list", listOf(n), math.MaxInt, listSeen(n, "empty"))
	}
	for _, n := range []int{1000, 1001, 5000} {
		wantSeen(t, "a longer list", listOf(n), math.MaxInt, listSeen(999, "deep"))
		wantSeen(t, "a longer list", listOf(n), api.MaxObs, listSeen(999, "deep"))
		wantSeen(t, "a longer list in casts", casts(t, listOf(n), "li", "l?", "li", "?"), math.MaxInt, listSeen(999, "deep"))
		wantSeen(t, "a longer list in a middle", coerced(t, listOf(n), "l!i"), math.MaxInt, listSeen(999, "deep"))
	}
	wantSeen(t, "a long list, by depth", listOf(1500), 998, listSeen(997, "cons deep deep"))
	wantSeen(t, "a long list, by depth", listOf(1500), 999, listSeen(998, "cons deep deep"))
	wantSeen(t, "a long list, by depth", listOf(1500), 1000, listSeen(999, "deep"))
	// With something behind that is certain to come.
	behind := value.Pair(listOf(1500), value.Num(7))
	want := listSeen(998, "deep")
	wantSeen(t, "a long list, and something behind it", behind, math.MaxInt, "pair "+want+" 7")
	if n := len(value.Seen(behind, math.MaxInt)); n != 1999 {
		t.Error("P14.8: nodes:", n)
	}
	two := value.Pair(listOf(998), value.Pair(value.Num(8), value.Num(9)))
	wantSeen(t, "a long list, and a pair behind it", two, math.MaxInt, "pair "+listSeen(998, "empty")+" deep")
	less := value.Pair(listOf(997), value.Pair(value.Num(8), value.Num(9)))
	wantSeen(t, "a list, and a pair behind it", less, math.MaxInt, "pair "+listSeen(997, "empty")+" pair 8 9")
	if n := len(value.Seen(less, math.MaxInt)); n != 1999 {
		t.Error("P14.8: nodes:", n)
	}
	// What is no pair and no list needs no room of its own.
	wantSeen(t, "a text behind", value.Pair(listOf(998), value.Text("a")), math.MaxInt, "pair "+listSeen(998, "empty")+` "a"`)
	wantSeen(t, "the empty list behind", value.Pair(listOf(998), value.Nil()), math.MaxInt, "pair "+listSeen(998, "empty")+" empty")
	wantSeen(t, "what is too deep behind", value.Pair(listOf(998), listOf(3)), math.MaxInt, "pair "+listSeen(998, "empty")+" deep")
	wantSeen(t, "blame behind", value.Pair(value.Num(1), coerced(t, value.Pair(listOf(997), value.Num(2)), ",?#5ib")), math.MaxInt, "pair 1 pair "+listSeen(997, "empty")+" blame:5")
	wantSeen(t, "a tagged pair behind", value.Pair(listOf(998), tag(t, value.Pair(nil, nil), ",??")), math.MaxInt, "pair "+listSeen(998, "empty")+" deep")
}

// Trees of pairs: to the left, each that is open has one behind it; from the left, as many as there is room for.
func TestSeenOfTrees(t *testing.T) {
	left := value.Num(1)
	for range 5000 {
		left = value.Pair(left, value.Num(2))
	}
	want := strings.TrimSpace(strings.Repeat("pair ", 999) + "deep" + strings.Repeat(" 2", 999))
	wantSeen(t, "pairs to the left", left, math.MaxInt, want)
	right := value.Num(1)
	for range 5000 {
		right = value.Pair(value.Num(2), right)
	}
	wantSeen(t, "pairs to the right", right, math.MaxInt, strings.Repeat("pair 2 ", 999)+"deep")
	// A full tree with 2^12 leaves: the leftmost are told.
	full := value.Num(1)
	for range 12 {
		full = value.Pair(full, full)
	}
	got := value.Seen(full, math.MaxInt)
	pairs := 0
	for _, o := range got {
		if o.Kind == api.OPair {
			pairs++
		}
	}
	if len(got) != 1999 || pairs != 999 || got[len(got)-1].Kind != api.ODeep || !slices.Equal(got[12:14], []api.Obs{{Kind: api.ONum, N: 1}, {Kind: api.ONum, N: 1}}) {
		t.Errorf("P14.8: a full tree: %d nodes, %d pairs", len(got), pairs)
	}
	// One value in very many places: only what is told is gone through.
	huge := value.Num(1)
	for range 60 {
		huge = value.Cons(huge, huge)
	}
	if got := value.Seen(huge, math.MaxInt); len(got) != 1999 {
		t.Errorf("P14.8: a huge tree: %d nodes", len(got))
	}
	if got := value.Seen(huge, 5); len(got) != 1<<6-1 {
		t.Errorf("P14.8: a huge tree with depth 5: %d nodes", len(got))
	}
}

// Each node's own fields alone are set, and none where the depth ends.
func TestSeenIsExact(t *testing.T) {
	v := value.Pair(value.Cons(value.Text("a"), value.Nil()), value.Pair(value.Truth(true), value.Pair(value.Fun(1), value.Box(2))))
	want := []api.Obs{{Kind: api.OPair}, {Kind: api.OCons}, {Kind: api.OText, S: "a"}, {Kind: api.OEmpty}, {Kind: api.OPair}, {Kind: api.OTruth, N: 1}, {Kind: api.OPair}, {Kind: api.OFun}, {Kind: api.OBox}}
	if got := value.Seen(v, 9); !slices.Equal(got, want) {
		t.Errorf("P14.8: %+v", got)
	}
	v = casts(t, value.Pair(value.Num(-4), nil), ",it", ",??", ",bb")
	if got := value.Seen(v, 2); !slices.Equal(got, []api.Obs{{Kind: api.OPair}, {Kind: api.OBlame, N: 2}, {Kind: api.OFault, N: 32}}) {
		t.Errorf("P14.8: %+v", got)
	}
	if got := value.Seen(value.Num(-4), 2); !slices.Equal(got, []api.Obs{{Kind: api.ONum, N: -4}}) {
		t.Errorf("P14.8: %+v", got)
	}
	if got := value.Seen(value.Num(-4), 0); !slices.Equal(got, []api.Obs{{Kind: api.ODeep}}) {
		t.Errorf("P14.8: %+v", got)
	}
}
