package types_test

import (
	"strings"
	"testing"

	"culprit/api"
	"culprit/types"
)

func wantWords(t *testing.T, in, want string) {
	t.Helper()
	if got, e := types.Words(in); got != want || e != api.OK {
		t.Errorf("P2.4: Words(%q) = %q, %d; want %q", in, got, e, want)
	}
}

func TestWords(t *testing.T) {
	for in, want := range map[string]string{
		">>ibx>tt": "(int -> bool) -> box (text -> text)", // of the examples' table
		",i?":      "(int, ?)",
		"xxl?":     "box box [?]",

		"i": "int", "b": "bool", "t": "text", "?": "?",
		">ii":     "int -> int",
		">i>bt":   "int -> bool -> text",
		">>ib>t?": "(int -> bool) -> text -> ?",
		">>>iiii": "((int -> int) -> int) -> int",
		">,ibl?":  "(int, bool) -> [?]",
		">>,ibt?": "((int, bool) -> text) -> ?",
		">xi?":    "box int -> ?",
		">x>i??":  "box (int -> ?) -> ?",
		",>ib>tt": "(int -> bool, text -> text)",
		",,ib,t?": "((int, bool), (text, ?))",
		"l>ii":    "[int -> int]",
		"ll,ib":   "[[(int, bool)]]",
		"li":      "[int]",
		"xi":      "box int",
		"x,ib":    "box (int, bool)",
		"xl>ii":   "box [int -> int]",
		"x>ii":    "box (int -> int)",
		"xx>i?":   "box box (int -> ?)",
		"x>x>iii": "box (box (int -> int) -> int)",
		",xilx?":  "(box int, [box ?])",
		">>??>??": "(? -> ?) -> ? -> ?",
	} {
		wantWords(t, in, want)
	}
	wantWords(t, strings.Repeat("x", 63)+"i", strings.Repeat("box ", 63)+"int")
	wantWords(t, strings.Repeat("l", 63)+"?", strings.Repeat("[", 63)+"?"+strings.Repeat("]", 63))
	wantWords(t, strings.Repeat(">i", 31)+"b", strings.Repeat("int -> ", 31)+"bool")
}

func TestWordsRefuses(t *testing.T) {
	for _, s := range noTypes() {
		want, _ := types.Check(s)
		if got, e := types.Words(s); got != "" || e != want || e == api.OK {
			t.Errorf("P2.4: Words(%.80q) = %q, %d; want none, %d", s, got, e, want)
		}
	}
	if _, e := types.Words(strings.Repeat("l", 64)); e != api.ErrShape {
		t.Errorf("P2.4: of 64 letters: %d", e)
	}
	if _, e := types.Words(strings.Repeat("z", 65)); e != api.ErrLarge {
		t.Errorf("P2.4: of 65 letters: %d", e)
	}
}
