package coerce_test

import (
	"regexp"
	"slices"
	"strings"
	"testing"

	"culprit/api"
	"culprit/coerce"
)

// wantText: there and back.
func wantText(t *testing.T, c []api.Co, want string) {
	t.Helper()
	if got, e := coerce.Text(c); e != api.OK || got != want {
		t.Errorf("P13.6: Text(%s) = %.100q, %d", told(c), got, e)
	}
	if len(want) > api.MaxSource {
		return
	}
	if got, e := coerce.Parse(want); e != api.OK || !slices.Equal(got, c) {
		t.Errorf("P13.6: Parse(%.100q) = %s, %d", want, told(got), e)
	}
}

func wantNoParse(t *testing.T, s string, want api.Errno) {
	t.Helper()
	if got, e := coerce.Parse(s); e != want || len(got) != 0 {
		t.Errorf("P13.6: Parse(%.100q) = %s, %d; want %d", s, told(got), e, want)
	}
}

func TestTextsOfEachOp(t *testing.T) {
	wantText(t, []api.Co{{Op: api.CoAny}}, "?")
	wantText(t, []api.Co{{Op: api.CoBase, Head: 'i'}}, "i")
	wantText(t, []api.Co{{Op: api.CoBase, Head: 'b', Inj: true}}, "!b")
	wantText(t, []api.Co{{Op: api.CoBase, Head: 't', Proj: 5}}, "5?t")
	wantText(t, []api.Co{{Op: api.CoBase, Head: 't', Proj: -15, Inj: true}}, "-15?!t")
	wantText(t, []api.Co{{Op: api.CoFail, Head: 'i', From: 'i', To: '>', Label: 7}}, "#7i>")
	wantText(t, []api.Co{{Op: api.CoFail, Head: ',', From: ',', To: 'x', Label: -70, Proj: 3}}, "3?#-70,x")
	wantText(t, []api.Co{{Op: api.CoFun, Head: '>'}, {Op: api.CoBase, Head: 'i', Proj: -5}, {Op: api.CoBase, Head: 'i', Inj: true}}, ">-5?i!i")
	wantText(t, []api.Co{{Op: api.CoPair, Head: ',', Proj: 1, Inj: true}, {Op: api.CoAny}, {Op: api.CoAny}}, "1?!,??")
	wantText(t, []api.Co{{Op: api.CoList, Head: 'l', Inj: true}, {Op: api.CoFail, Head: 'b', From: 'b', To: 't', Label: 1}}, "!l#1bt")
	wantText(t, []api.Co{{Op: api.CoBox, Head: 'x', Proj: 9}, {Op: api.CoAny}, {Op: api.CoBase, Head: 'i', Proj: 2, Inj: true}}, "9?x?2?!i")
	for _, n := range someLabels() {
		wantText(t, []api.Co{{Op: api.CoBase, Head: 'i', Proj: n}}, nodeTold(api.Co{Op: api.CoBase, Head: 'i', Proj: n}))
		wantText(t, []api.Co{{Op: api.CoFail, Head: 'i', From: 'i', To: 'b', Label: n, Proj: -n}}, nodeTold(api.Co{Op: api.CoFail, From: 'i', To: 'b', Label: n, Proj: -n}))
	}
	wantText(t, []api.Co{{Op: api.CoBase, Head: 'i', Proj: 2147483647}}, "2147483647?i")
	wantText(t, []api.Co{{Op: api.CoBase, Head: 'i', Proj: -2147483647}}, "-2147483647?i")
}

func TestTextsThatAreNone(t *testing.T) {
	for _, s := range strings.Fields(`0?i 00?i -0?i 01?i -01?i +1?i 1i 1 -?i -1 -i 1?? 1? ?i ?1 !? !! !!i ! 1?!? 1?1?i 5?! i! i5? --1?i 1-?i
		2147483648?i -2147483648?i 4294967297?i 9223372036854775807?i 9223372036854775808?i -9223372036854775808?i 18446744073709551617?i 99999999999999999999999?i
		# #i #ib #5 #5i #5ii #5i? #5?i #5iz #5zi #0ib #00ib #-ib #-0ib #+5ib #05ib #5?ib #5i5b ##5ib !#5ib #5!ib #2147483648ib #-2147483648ib 5?!#5ib 0?#5ib #5ibi 5?
		> >i , ,i l x xi >iii lii ii ?? !li 5?li 5?l!i !l5?i 5?l!i! !>ii !>!i? 5?>1?i? !x?!i z I int é 5?z !z 5?é`) {
		wantNoParse(t, s, api.ErrParse)
	}
	for _, s := range []string{"", " ", " i", "i ", "5 ?i", "5? i", "! i", "> i i", ">i i", "# 5ib", "#5i b", "\n", "i\n", "\x00", "i\x00", "5?\x00", "\xff", "#5i\xff", "1_0?i", "0x1?i", "1e1?i", "٣?i", "#٣ib"} {
		wantNoParse(t, s, api.ErrParse)
	}
	high := strings.Repeat("l", 63)
	wantText(t, list(high+"i"), high+"i")
	wantNoParse(t, high+"li", api.ErrParse)
	wantNoParse(t, high, api.ErrParse)
}

// whole: texts that are written of nodes in the one way, whichever nodes.
var whole = regexp.MustCompile(`^(?:(?:-?[1-9][0-9]*\?)?!?(?:\?|#-?[1-9][0-9]*[ibt>,lx][ibt>,lx]|[ibt>,lx]))+$`)

// wantAsText holds Parse of any text against the words: it is the text of just one coercion that may be, or of none.
func wantAsText(t *testing.T, s string) bool {
	t.Helper()
	if whole.MatchString(s) && may(list(s)) {
		wantText(t, list(s), s)
		return true
	}
	wantNoParse(t, s, api.ErrParse)
	return false
}

func TestEveryShortText(t *testing.T) {
	const bytes = "?!#-015i>lb"
	count := map[bool]int{}
	texts := []string{""}
	for range 5 {
		var longer []string
		for _, s := range texts {
			for _, b := range strings.Split(bytes, "") {
				longer = append(longer, s+b)
				count[wantAsText(t, s+b)]++
			}
		}
		texts = longer
	}
	if count[true] < 500 || count[false] < 100000 {
		t.Errorf("too few kinds of texts: %v", count)
	}
}

func TestTextsOfManyCoercions(t *testing.T) {
	var d dice = 8
	count := map[bool]int{}
	for range 10000 {
		c, _, _ := d.dealt()
		s := ""
		for _, n := range c.list() {
			s += nodeTold(n)
		}
		wantText(t, c.list(), s)
		at := d.below(len(s))
		switch d.below(3) {
		case 0:
			s = s[:at] + s[at+1:]
		case 1:
			s = s[:at] + string(rune("?!#-019ibt>,lx"[d.below(14)])) + s[at:]
		case 2:
			s = s[:at] + string(rune("?!#-019ibt>,lx z"[d.below(16)])) + s[at+1:]
		}
		count[wantAsText(t, s)]++
	}
	if count[true] < 1000 || count[false] < 1000 {
		t.Errorf("too few kinds of texts: %v", count)
	}
}

// longest: a coercion whose text has so many bytes: 8191 pairs, 8192 bases below them, the last one being as long as is needed.
func longest(bytes int) string {
	const leaves = 1 << 13
	last := "1" + strings.Repeat("0", bytes-(leaves-1)-7*(leaves-1)-3) + "?i"
	var put func(n int, end string) string
	put = func(n int, end string) string {
		if n == 1 {
			return end
		}
		return "," + put(n/2, "12345?i") + put(n/2, end)
	}
	return put(leaves, last)
}

// At MaxSource bytes all is as below it; one beyond is refused, whatever it is. A text may be longer.
func TestTheLongestTexts(t *testing.T) {
	for _, n := range []int{api.MaxSource - 1, api.MaxSource} {
		s := longest(n)
		if len(s) != n {
			t.Fatalf("%d bytes; want %d", len(s), n)
		}
		wantText(t, list(s), s)
	}
	beyond := longest(api.MaxSource + 1)
	wantText(t, list(beyond), beyond)
	wantNoParse(t, beyond, api.ErrMany)
	for _, s := range []string{"i", "?", "l", "z", "9", "9?", "-", "#", "\x00", ",i", "5?!"} {
		wantNoParse(t, strings.Repeat(s, api.MaxSource)[:api.MaxSource], api.ErrParse)
		wantNoParse(t, strings.Repeat(s, api.MaxSource)[:api.MaxSource-1], api.ErrParse)
		wantNoParse(t, strings.Repeat(s, api.MaxSource+1)[:api.MaxSource+1], api.ErrMany)
		wantNoParse(t, strings.Repeat(s, 1<<20), api.ErrMany)
	}
}
