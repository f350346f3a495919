package code_test

import (
	"slices"
	"strings"
	"testing"

	"culprit/api"
	"culprit/code"
)

// Read of what Show tells of any code is the code.
func TestShowAndBack(t *testing.T) {
	var d dice = 1
	for range 20000 {
		c := d.code()
		wantLines(t, c, linesOf(c))
	}
}

// What Read takes is what Show tells of it, of any text: many are near to code's lines, some of them are.
func TestReadAndBack(t *testing.T) {
	var d dice = 2
	count := map[bool]int{}
	for range 40000 {
		text := linesOf(d.code())
		for range 1 + d.below(2) {
			if text != "" {
				text = d.spoilt(text)
			}
		}
		count[wantAsWords(t, text)]++
	}
	if count[true] < 5000 || count[false] < 5000 {
		t.Errorf("too few kinds of texts: %v", count)
	}
	for range 40000 {
		text := d.text() + d.text() + d.text()
		wantAsWords(t, text)
		wantAsWords(t, text+"\n")
		wantAsWords(t, kindsOfLines()[d.below(6)]+text+kindsOfLines()[d.below(6)])
	}
}

// Each code has one text, each text at most one code: codes that differ have texts that differ.
func TestOneTextEach(t *testing.T) {
	codes := map[string]api.Code{}
	again := 0
	see := func(c api.Code) {
		text := code.Show(c)
		first, seen := codes[text]
		if seen && !same(first, c) {
			t.Errorf("what follows: %s and %s have the same text %.200q", told(first), told(c), text)
		}
		if seen {
			again++
		}
		codes[text] = c
	}
	var d dice = 3
	for range 20000 {
		see(d.code())
	}
	// Texts that stand apart, or as one; in this list, or in that one.
	for _, some := range [][]string{nil, {""}, {"", ""}, {"a"}, {"a", ""}, {"", "a"}, {"a\" \"a"}, {"a", "a"}, {"a a"}, {" "}, {"\" \""}, {" ", ""}, {":"}, {":", ""}, {" : "}, {"\" : \""}, {"\\x0a"}, {"\n"}, {"\\n"}, {"x0a"}, {"a\ntext \"a\""}} {
		see(api.Code{Texts: some})
		see(api.Code{Types: some})
		see(api.Code{Functions: []api.Function{{Env: some}}})
		see(api.Code{Functions: []api.Function{{Param: strings.Join(some, " ")}}})
		see(api.Code{Functions: []api.Function{{Result: strings.Join(some, " ")}}})
		see(api.Code{Casts: []api.Waits{{From: strings.Join(some, " ")}}})
		see(api.Code{Casts: []api.Waits{{To: strings.Join(some, " ")}}})
		if len(some) == 2 {
			see(api.Code{Functions: []api.Function{{Param: some[0], Result: some[1]}}})
			see(api.Code{Casts: []api.Waits{{From: some[0], To: some[1]}}})
			see(api.Code{Texts: some[:1], Types: some[1:]})
		}
	}
	if len(codes) < 15000 || again == 0 {
		t.Errorf("too few codes: %d, %d of them again", len(codes), again)
	}
}

// A text that has lost its last byte is no code's: its last line has no end.
func TestTextsWithoutTheirLastByte(t *testing.T) {
	var d dice = 4
	for range 10000 {
		text := linesOf(d.code())
		if text != "" {
			wantRefused(t, text[:len(text)-1], strings.Count(text, "\n"))
		}
	}
	ahead := ""
	for n, line := range kindsOfLines() {
		ahead += line
		wantRefused(t, ahead[:len(ahead)-1], n+1)
	}
}

// A text that has lost one line of its functions' heads is no code's, or another's.
func TestTextsWithoutAHead(t *testing.T) {
	var d dice = 5
	count := map[bool]int{}
	for range 10000 {
		c := d.code()
		lines := strings.SplitAfter(linesOf(c), "\n")
		for at, line := range lines {
			if !strings.HasPrefix(line, "fn ") {
				continue
			}
			less := strings.Join(slices.Delete(slices.Clone(lines), at, at+1), "")
			taken := wantAsWords(t, less)
			count[taken]++
			if got, _, _ := code.Read(less); taken && same(got, c) {
				t.Errorf("what follows: %q, a head less, is the same code", less)
			}
		}
	}
	if count[true] < 1000 || count[false] < 1000 {
		t.Errorf("too few kinds of texts: %v", count)
	}
	// Of the first head its instructions are left alone; those of a later one are the function's ahead of it.
	ret := []api.Ins{{Op: code.Ret}}
	wantRefused(t, "num 1\n ret 0 0\nfn : \"a\" \"b\"\n ret 0 0\n", 2)
	wantCode(t, "fn : \"\" \"i\"\n ret 0 0\n ret 0 0\n", api.Code{Functions: []api.Function{{Result: "i", Code: slices.Concat(ret, ret)}}})
	wantCode(t, "num 1\n", api.Code{Nums: []int64{1}})
}
