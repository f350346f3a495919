package print_test

import (
	"math"
	"slices"
	"strconv"
	"strings"
	"testing"

	"culprit/api"
	"culprit/text"
	"culprit/types"
)

func TestExprsOfTheTable(t *testing.T) {
	for words, want := range map[string]string{
		"Sub Sub 1 2 3":               "1 - 2 - 3",
		"Sub 1 Sub 2 3":               "1 - (2 - 3)",
		"Mul Add 1 2 Neg 3":           "(1 + 2) * -3",
		"Neg Call f 1":                "-f(1)",
		"Call Neg f 1":                "(-f)(1)",
		"Set Get x Add 1 2":           "!x := 1 + 2",
		"Get Set x 1":                 "!(x := 1)",
		"Less Less 1 2 3":             "(1 < 2) < 3",
		"Call Fn(x|i|) x 1":           "(fn (x : int) => x)(1)",
		"Rec(f/n||?) n":               "rec f (n) : ? => n",
		"Let(x|) 1 x":                 "let x = 1 in x",
		"As(>>iii) x":                 "(x : (int -> int) -> int)",
		"List(2) 1 Pair 2 true":       "[1, (2, true)]",
		"Neg Neg 1":                   "--1",
		"Add 1 If a b c":              "1 + (if a then b else c)",
		"Call Call f 1 2":             "f(1)(2)",
		"Set Set a b c":               "(a := b) := c",
		"Set a Set b c":               "a := b := c",
		"If If a b c Let(x|) 1 2 3":   "if if a then b else c then let x = 1 in 2 else 3",
		"Let(x|) Let(y|) 1 2 Set 3 4": "let x = let y = 1 in 2 in 3 := 4",
	} {
		wantExpr(t, of(words), want)
	}
}

// sample is a text of each kind with names alone as kids, by hand, and the kind's rank.
type sample struct {
	words string
	rank  int
	text  string
}

func samples() []sample {
	return []sample{
		{"7", 6, "7"}, {`"s"`, 6, `"s"`}, {"true", 6, "true"}, {"false", 6, "false"}, {"v", 6, "v"},
		{"Fn(x) a", 0, "fn (x) => a"}, {"Fn(x|i) a", 0, "fn (x : int) => a"}, {"Fn(x||b) a", 0, "fn (x) : bool => a"}, {"Fn(x|i|b) a", 0, "fn (x : int) : bool => a"},
		{"Rec(g/x) a", 0, "rec g (x) => a"}, {"Rec(g/x|t) a", 0, "rec g (x : text) => a"}, {"Rec(g/x||?) a", 0, "rec g (x) : ? => a"}, {"Rec(x/x|>i?|x>ii) a", 0, "rec x (x : int -> ?) : box (int -> int) => a"},
		{"Let(x) a b", 0, "let x = a in b"}, {"Let(x|li) a b", 0, "let x : [int] = a in b"},
		{"If a b c", 0, "if a then b else c"},
		{"Set a b", 0, "a := b"},
		{"Eq a b", 1, "a == b"}, {"Less a b", 1, "a < b"},
		{"Add a b", 2, "a + b"}, {"Sub a b", 2, "a - b"}, {"Join a b", 2, "a ++ b"},
		{"Mul a b", 3, "a * b"},
		{"Neg a", 4, "-a"}, {"Get a", 4, "!a"},
		{"Call a b", 5, "a(b)"},
		{"Pair a b", 6, "(a, b)"}, {"As(?) a", 6, "(a : ?)"}, {"As(,i>b?) a", 6, "(a : (int, bool -> ?))"},
		{"List(0)", 6, "[]"}, {"List(1) a", 6, "[a]"}, {"List(2) a b", 6, "[a, b]"}, {"List(4) a b c d", 6, "[a, b, c, d]"},
		{"Box a", 6, "box(a)"}, {"Size a", 6, "size(a)"}, {"First a", 6, "first(a)"}, {"Second a", 6, "second(a)"},
		{"Head a", 6, "head(a)"}, {"Tail a", 6, "tail(a)"}, {"Empty a", 6, "empty(a)"},
		{"Cons a b", 6, "cons(a, b)"},
	}
}

// The table of kinds, row by row.
func TestEveryRowOfTheTable(t *testing.T) {
	seen := map[int8]int{}
	for _, s := range samples() {
		wantExpr(t, of(s.words), s.text)
		seen[of(s.words)[0].Kind]++
	}
	if len(seen) != len(kindNames()) {
		t.Errorf("the tests have only these kinds: %v", seen)
	}
}

// Each place of a kid, by hand: where k stands the kid does, asked for a rank.
func TestEveryRankAtEveryPlace(t *testing.T) {
	places := []sample{
		{"Fn(x) k", 0, "fn (x) => k"}, {"Fn(x|i|i) k", 0, "fn (x : int) : int => k"}, {"Rec(g/x) k", 0, "rec g (x) => k"},
		{"Let(x) k z", 0, "let x = k in z"}, {"Let(x) z k", 0, "let x = z in k"},
		{"If k y z", 0, "if k then y else z"}, {"If y k z", 0, "if y then k else z"}, {"If y z k", 0, "if y then z else k"},
		{"Set k z", 1, "k := z"}, {"Set z k", 0, "z := k"},
		{"Eq k z", 2, "k == z"}, {"Eq z k", 2, "z == k"}, {"Less k z", 2, "k < z"}, {"Less z k", 2, "z < k"},
		{"Add k z", 2, "k + z"}, {"Add z k", 3, "z + k"}, {"Sub k z", 2, "k - z"}, {"Sub z k", 3, "z - k"}, {"Join k z", 2, "k ++ z"}, {"Join z k", 3, "z ++ k"},
		{"Mul k z", 3, "k * z"}, {"Mul z k", 4, "z * k"},
		{"Neg k", 4, "-k"}, {"Get k", 4, "!k"},
		{"Call k z", 5, "k(z)"}, {"Call z k", 0, "z(k)"},
		{"Pair k z", 0, "(k, z)"}, {"Pair z k", 0, "(z, k)"}, {"As(?) k", 0, "(k : ?)"},
		{"List(1) k", 0, "[k]"}, {"List(3) k y z", 0, "[k, y, z]"}, {"List(3) y k z", 0, "[y, k, z]"}, {"List(3) y z k", 0, "[y, z, k]"},
		{"Box k", 0, "box(k)"}, {"Size k", 0, "size(k)"}, {"First k", 0, "first(k)"}, {"Second k", 0, "second(k)"}, {"Head k", 0, "head(k)"}, {"Tail k", 0, "tail(k)"}, {"Empty k", 0, "empty(k)"},
		{"Cons k z", 0, "cons(k, z)"}, {"Cons z k", 0, "cons(z, k)"},
	}
	seen := map[int8]int{}
	for _, place := range places {
		seen[of(place.words)[0].Kind]++
		for _, kid := range samples() {
			inside := kid.text
			if kid.rank < place.rank {
				inside = "(" + inside + ")"
			}
			l := of(strings.Replace(place.words, "k", kid.words, 1))
			wantExpr(t, l, strings.Replace(place.text, "k", inside, 1))
		}
	}
	if len(seen) != 25 { // all but those that have no kids
		t.Errorf("the tests have only these kinds: %v", seen)
	}
}

func TestNumbers(t *testing.T) {
	for _, n := range []int64{0, 1, 9, 10, 100, 1234567890, math.MaxInt32, 1 << 32, math.MaxInt64} {
		wantExpr(t, []api.Node{{Kind: api.Num, N: n}}, strconv.FormatInt(n, 10))
	}
	wantExpr(t, of("9223372036854775807"), "9223372036854775807")
	wantExpr(t, of("Neg 9223372036854775807"), "-9223372036854775807")
	wantRefused(t, []api.Node{{Kind: api.Num, N: -1}}, api.ErrTree)
	wantRefused(t, []api.Node{{Kind: api.Truth, N: 2}}, api.ErrTree)
}

func TestTexts(t *testing.T) {
	str := func(s string) []api.Node { return []api.Node{{Kind: api.Str, S: s}} }
	wantExpr(t, str(""), `""`)
	wantExpr(t, str("a b"), `"a b"`)
	wantExpr(t, str("\"\\\n"), `"\"\\\n"`)
	wantExpr(t, str("fn (x) => ("), `"fn (x) => ("`)
	wantExpr(t, str(strings.Repeat("\n", 64)), `"`+strings.Repeat(`\n`, 64)+`"`)
	wantRefused(t, str(strings.Repeat("a", 65)), api.ErrTree)
	for b := range 256 {
		s := string([]byte{'a', byte(b)})
		quoted, e := text.Quote(s)
		if e != api.OK {
			wantRefused(t, str(s), api.ErrTree)
			continue
		}
		wantExpr(t, str(s), quoted)
	}
}

func TestNames(t *testing.T) {
	for _, s := range []string{"x", "X", "lets", "a_1", "n_", strings.Repeat("n", 32)} {
		wantExpr(t, []api.Node{{Kind: api.Var, S: s}}, s)
		wantExpr(t, []api.Node{{Kind: api.Fn, Kids: 1, S: s}, {Kind: api.Var, S: s}}, "fn ("+s+") => "+s)
		wantExpr(t, []api.Node{{Kind: api.Rec, Kids: 1, S: s + " y"}, {Kind: api.Var, S: s}}, "rec "+s+" (y) => "+s)
		wantExpr(t, []api.Node{{Kind: api.Rec, Kids: 1, S: "f " + s}, {Kind: api.Var, S: s}}, "rec f ("+s+") => "+s)
		wantExpr(t, []api.Node{{Kind: api.Let, Kids: 2, S: s}, {Kind: api.Num}, {Kind: api.Var, S: s}}, "let "+s+" = 0 in "+s)
	}
	for _, s := range []string{"", "let", "1a", "a b", "_", strings.Repeat("n", 33)} {
		wantRefused(t, []api.Node{{Kind: api.Var, S: s}}, api.ErrTree)
		wantRefused(t, []api.Node{{Kind: api.Fn, Kids: 1, S: s}, {Kind: api.Num}}, api.ErrTree)
	}
}

// eachType visits the types of at most so many letters.
func eachType(letters int, visit func(t string)) {
	var from func(t string, missing int)
	from = func(t string, missing int) {
		if missing == 0 {
			visit(t)
			return
		}
		if len(t)+missing > letters {
			return
		}
		for _, head := range []string{"i", "b", "t", "?"} {
			from(t+head, missing-1)
		}
		from(t+"l", missing)
		from(t+"x", missing)
		from(t+">", missing+1)
		from(t+",", missing+1)
	}
	from("", 1)
}

// A type stands everywhere as chapter 2's Words tells it; where it is absent, the colon is too.
func TestEveryShortType(t *testing.T) {
	tried := 0
	eachType(5, func(s string) {
		words, _ := types.Words(s)
		for _, c := range []struct{ l, text string }{
			{"As(T) x", "(x : W)"}, {"Let(x|T) 1 2", "let x : W = 1 in 2"},
			{"Fn(x|T) 1", "fn (x : W) => 1"}, {"Fn(x||T) 1", "fn (x) : W => 1"}, {"Fn(x|T|T) 1", "fn (x : W) : W => 1"},
			{"Rec(f/x|T) 1", "rec f (x : W) => 1"}, {"Rec(f/x||T) 1", "rec f (x) : W => 1"}, {"Rec(f/x|T|T) 1", "rec f (x : W) : W => 1"},
		} {
			wantExpr(t, of(strings.ReplaceAll(c.l, "T", s)), strings.ReplaceAll(c.text, "W", words))
		}
		tried++
	})
	if tried < 1500 {
		t.Errorf("only %d types were tried", tried)
	}
}

func TestLargeTypes(t *testing.T) {
	full := strings.Repeat("x", 63) + "i"
	wantExpr(t, of("As("+full+") x"), "(x : "+strings.Repeat("box ", 63)+"int)")
	wantExpr(t, of("Fn(x|"+full+"|i) x"), "fn (x : "+strings.Repeat("box ", 63)+"int) : int => x")
	for _, s := range []string{"x" + full, "ii", ">i", "z", "?"[:0]} {
		wantRefused(t, of("As("+s+") x"), api.ErrTree)
	}
	for _, s := range []string{"x" + full, "ii", ">i", "z"} {
		wantRefused(t, of("Fn(x|"+s+") x"), api.ErrTree)
		wantRefused(t, of("Rec(f/x||"+s+") x"), api.ErrTree)
		wantRefused(t, of("Let(x|"+s+") 1 x"), api.ErrTree)
	}
}

func TestLongLists(t *testing.T) {
	for _, n := range []int{0, 1, 2, 3, 100, api.MaxNodes - 1} {
		elements := slices.Repeat([]string{"7"}, n)
		wantExpr(t, append([]api.Node{{Kind: api.List, Kids: n}}, of(strings.Join(elements, " "))...), "["+strings.Join(elements, ", ")+"]")
	}
	wantExpr(t, of("List(3) List(0) List(1) List(0) List(2) 1 List(2) 2 3"), "[[], [[]], [1, [2, 3]]]")
}

// Places are not looked at; spare fields are refused by chapter 5.
func TestPlacesAreNotLookedAt(t *testing.T) {
	l := of("Call Fn(x|i) Neg x 1")
	for i, place := range []api.Place{{Line: 3, Col: 9}, {Line: -1}, {Col: math.MaxInt}, {Line: math.MinInt, Col: 1}} {
		l[i].At = place
	}
	wantExpr(t, l, "(fn (x : int) => -x)(1)")
}
