package code_test

import (
	"fmt"
	"math"
	"strings"
	"testing"

	"culprit/api"
	"culprit/code"
)

// The chapter's examples.
func TestExamples(t *testing.T) {
	wantLines(t, api.Code{}, "")
	wantLines(t, api.Code{Nums: []int64{7, -1}, Texts: []string{"a\"", "\n"}}, "num 7\nnum -1\ntext \"a\\x22\"\ntext \"\\x0a\"\n")
	wantLines(t, api.Code{Casts: []api.Waits{{From: "i", To: "?", Co: []api.Co{{Op: api.CoBase, Inj: true, Head: 'i'}}}}}, "cast \"i\" \"?\" 2.0.1.105.0.0.0\n")
	f := api.Function{Env: []string{">ii"}, Param: "i", Result: "b", Code: []api.Ins{{Op: code.Local, A: 1}, {Op: code.Call}, {Op: 99, A: -3}}}
	wantLines(t, api.Code{Functions: []api.Function{f}}, "fn \">ii\" : \"i\" \"b\"\n local 1 0\n call 0 0\n #99 -3 0\n")
}

// All kinds of lines in their order.
func TestAllLines(t *testing.T) {
	wantLines(t, api.Code{
		Functions: []api.Function{
			{Result: ">ii", Code: []api.Ins{{Op: code.Rec, A: 1}, {Op: code.Ret}}},
			{Env: []string{">ii", "x?"}, Param: "i", Result: "i", Code: []api.Ins{{Op: code.List, A: 2, B: 1}}},
			{Param: "b", Result: "t"},
		},
		Casts: []api.Waits{{From: ">??", To: ">ii", Co: []api.Co{{Op: api.CoFun, Head: '>'}, {Op: api.CoBase, Head: 'i', Inj: true}, {Op: api.CoBase, Head: 'i', Proj: 3}}}, {From: "i", To: "b"}},
		Nums:  []int64{3, 2}, Texts: []string{"one", ""}, Types: []string{"l?", "i"},
	}, `num 3
num 2
text "one"
text ""
type "l?"
type "i"
cast ">??" ">ii" 3.0.0.62.0.0.0 2.0.1.105.0.0.0 2.3.0.105.0.0.0
cast "i" "b"
fn : "" ">ii"
 rec 1 0
 ret 0 0
fn ">ii" "x?" : "i" "i"
 list 2 1
fn : "b" "t"
`)
}

// Code of which only some lists have elements, and lists within that have none.
func TestWhatIsMissing(t *testing.T) {
	for mask := range 32 {
		var c api.Code
		has := func(bit int) bool { return mask>>bit&1 == 1 }
		if has(0) {
			c.Nums = []int64{0}
		}
		if has(1) {
			c.Texts = []string{""}
		}
		if has(2) {
			c.Types = []string{""}
		}
		if has(3) {
			c.Casts = []api.Waits{{}, {Co: []api.Co{{}}}, {}}
		}
		if has(4) {
			c.Functions = []api.Function{{}, {Env: []string{"", ""}}, {Code: []api.Ins{{}}}, {}}
		}
		wantLines(t, c, linesOf(c))
	}
	wantLines(t, api.Code{Functions: []api.Function{{}}}, "fn : \"\" \"\"\n")
	wantLines(t, api.Code{Functions: []api.Function{{Env: []string{""}}}}, "fn \"\" : \"\" \"\"\n")
	wantLines(t, api.Code{Casts: []api.Waits{{}}}, "cast \"\" \"\"\n")
	wantLines(t, api.Code{Casts: []api.Waits{{Co: []api.Co{{}, {}}}}}, "cast \"\" \"\" 0.0.0.0.0.0.0 0.0.0.0.0.0.0\n")
	// R4: lists without elements are those that are nil.
	none := api.Code{Functions: []api.Function{}, Casts: []api.Waits{}, Nums: []int64{}, Texts: []string{}, Types: []string{}}
	if got := code.Show(none); got != "" {
		t.Errorf("R4: Show = %q", got)
	}
	empty := api.Code{Functions: []api.Function{{Env: []string{}, Code: []api.Ins{}}}, Casts: []api.Waits{{Co: []api.Co{}}}}
	wantLines(t, empty, "cast \"\" \"\"\nfn : \"\" \"\"\n")
}

func TestEachNumber(t *testing.T) {
	wantLines(t, api.Code{Nums: []int64{math.MaxInt64, math.MinInt64, 0}}, "num 9223372036854775807\nnum -9223372036854775808\nnum 0\n")
	for _, n := range someNumbers() {
		wantLines(t, api.Code{Nums: []int64{n}}, fmt.Sprintf("num %d\n", n))
		f := api.Function{Code: []api.Ins{{Op: code.Push, A: int(n)}, {Op: code.List, B: int(n)}, {Op: -7, A: int(n), B: int(n)}}}
		wantLines(t, api.Code{Functions: []api.Function{f}}, fmt.Sprintf("fn : \"\" \"\"\n push %d 0\n list 0 %d\n #-7 %d %d\n", n, n, n, n))
		co := []api.Co{{Proj: n}, {Label: n}}
		wantLines(t, api.Code{Casts: []api.Waits{{Co: co}}}, fmt.Sprintf("cast \"\" \"\" 0.%d.0.0.0.0.0 0.0.0.0.%d.0.0\n", n, n))
	}
}

func TestEachOpAndByteOfNodes(t *testing.T) {
	for op := math.MinInt8; op <= math.MaxInt8; op++ {
		co := []api.Co{{Op: int8(op)}, {Op: int8(op), Inj: true}}
		wantLines(t, api.Code{Casts: []api.Waits{{Co: co}}}, fmt.Sprintf("cast \"\" \"\" %d.0.0.0.0.0.0 %d.0.1.0.0.0.0\n", op, op))
	}
	for b := range 256 {
		co := []api.Co{{Head: byte(b)}, {From: byte(b)}, {To: byte(b)}}
		wantLines(t, api.Code{Casts: []api.Waits{{Co: co}}}, fmt.Sprintf("cast \"\" \"\" 0.0.0.%d.0.0.0 0.0.0.0.0.%d.0 0.0.0.0.0.0.%d\n", b, b, b))
	}
	all := api.Co{Op: -128, Proj: math.MinInt64, Inj: true, Head: 255, Label: math.MaxInt64, From: 254, To: 253}
	wantLines(t, api.Code{Casts: []api.Waits{{From: "a", To: "b", Co: []api.Co{all}}}}, "cast \"a\" \"b\" -128.-9223372036854775808.1.255.9223372036854775807.254.253\n")
}

func TestEachOpOfInstructions(t *testing.T) {
	names := strings.Fields(opNames)
	for op := math.MinInt8; op <= math.MaxInt8; op++ {
		word := fmt.Sprintf("#%d", op)
		if op >= 1 && op <= len(names) {
			word = names[op-1]
		}
		f := api.Function{Code: []api.Ins{{Op: int8(op)}, {Op: int8(op), A: math.MinInt, B: math.MaxInt}}}
		wantLines(t, api.Code{Functions: []api.Function{f}}, fmt.Sprintf("fn : \"\" \"\"\n %s 0 0\n %s %d %d\n", word, word, math.MinInt, math.MaxInt))
	}
}

// ofText: code in which a text stands in each place where one may.
func ofText(s string) api.Code {
	return api.Code{
		Texts: []string{s, s + "a"}, Types: []string{s, "a" + s},
		Casts:     []api.Waits{{From: s, To: s, Co: []api.Co{{Op: 1}}}, {From: "a" + s, To: s + "a"}},
		Functions: []api.Function{{Param: s, Result: s}, {Env: []string{s, "b", s}, Param: "c" + s, Result: s + "d", Code: []api.Ins{{}}}},
	}
}

// Every byte, at every place of a text.
func TestEachByteInQuotes(t *testing.T) {
	for b := range 256 {
		s := string([]byte{byte(b)})
		told := fmt.Sprintf(`\x%02x`, b)
		if b >= 32 && b <= 126 && b != 34 && b != 92 {
			told = s
		}
		wantLines(t, api.Code{Texts: []string{s}}, "text \""+told+"\"\n")
		wantLines(t, api.Code{Types: []string{s + "i" + s + s}}, "type \""+told+"i"+told+told+"\"\n")
		wantLines(t, api.Code{Casts: []api.Waits{{From: s, To: "?" + s}}}, "cast \""+told+"\" \"?"+told+"\"\n")
		f := api.Function{Env: []string{s, "a" + s}, Param: s + "p", Result: s + s}
		wantLines(t, api.Code{Functions: []api.Function{f}}, "fn \""+told+"\" \"a"+told+"\" : \""+told+"p\" \""+told+told+"\"\n")
		wantLines(t, ofText(s), linesOf(ofText(s)))
	}
	all := make([]byte, 256)
	for i := range all {
		all[i] = byte(i)
	}
	wantLines(t, ofText(string(all)), linesOf(ofText(string(all))))
	wantLines(t, api.Code{Texts: []string{"\x00\x1f !\"#[\\]~\x7f\x80\xffé"}}, `text "\x00\x1f !\x22#[\x5c]~\x7f\x80\xff\xc3\xa9"`+"\n")
}

// Texts that look like what stands around them.
func TestTextsLikeLines(t *testing.T) {
	for _, s := range []string{" ", "  ", ":", " : ", `" : "`, `"`, `" "`, `\`, `\x22`, `\\`, "\n", "num 7\n", "\nfn : \"\" \"\"\n", " call 0 0", "x", "x22", "#", "0", "2.0.1.105.0.0.0", "\r\n", "\t"} {
		wantLines(t, ofText(s), linesOf(ofText(s)))
	}
}
