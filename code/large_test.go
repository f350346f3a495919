package code_test

import (
	"slices"
	"strconv"
	"strings"
	"testing"

	"culprit/api"
	"culprit/code"
)

// wantThereAndBack: of code that is too large for the plain model.
func wantThereAndBack(t *testing.T, c api.Code, bytes int) {
	t.Helper()
	text := code.Show(c)
	if len(text) != bytes {
		t.Errorf("P18.2: Show tells %d bytes; want %d", len(text), bytes)
	}
	wantCode(t, text, c)
	lines := strings.Count(text, "\n")
	wantRefused(t, text[:len(text)-1], lines)
	wantRefused(t, text+"\n", lines+1)
	wantRefused(t, text+" x", lines+1)
}

func TestManyLines(t *testing.T) {
	const many = 1 << 18
	wantThereAndBack(t, api.Code{Nums: slices.Repeat([]int64{-7}, many)}, 7*many)
	wantThereAndBack(t, api.Code{Texts: slices.Repeat([]string{"a"}, many)}, 9*many)
	wantThereAndBack(t, api.Code{Types: slices.Repeat([]string{"l?"}, many)}, 10*many)
	wantThereAndBack(t, api.Code{Casts: slices.Repeat([]api.Waits{{From: "i", To: "?", Co: nodes("i")}}, many/4)}, 29*many/4)
	wantThereAndBack(t, api.Code{Functions: slices.Repeat([]api.Function{{Env: []string{"i"}, Param: "b", Result: "t", Code: []api.Ins{{Op: code.Ret}}}}, many/4)}, 26*many/4)
	body := api.Function{Code: slices.Repeat([]api.Ins{{Op: code.Call, A: 1, B: -1}, {Op: -1}}, many/2)}
	c := api.Code{Functions: []api.Function{{}, body, {}, body}}
	wantThereAndBack(t, c, 4*len("fn : \"\" \"\"\n")+2*(len(" call 1 -1\n")+len(" #-1 0 0\n"))*many/2)
	if got := code.Size(c); got != 2*many {
		t.Errorf("P18.3: Size = %d; want %d", got, 2*many)
	}
}

// One line may be long, too.
func TestLongLines(t *testing.T) {
	const many = 1 << 19
	wantThereAndBack(t, api.Code{Texts: []string{strings.Repeat("a", 4*many), strings.Repeat("\n", many)}}, 2*len("text \"\"\n")+4*many+4*many)
	wantThereAndBack(t, api.Code{Types: []string{strings.Repeat("\"\\ ", many)}}, len("type \"\"\n")+9*many)
	wantThereAndBack(t, api.Code{Casts: []api.Waits{{From: strings.Repeat(">", many), To: strings.Repeat("\x00", many)}}}, len("cast \"\" \"\"\n")+5*many)
	wantThereAndBack(t, api.Code{Functions: []api.Function{{Env: slices.Repeat([]string{"x?"}, many/2), Param: strings.Repeat(" ", many), Result: strings.Repeat("é", many)}}}, len("fn : \"\" \"\"\n")+5*many/2+many+8*many)
	some := slices.Repeat([]api.Co{{Op: api.CoPair, Proj: -1, Inj: true, Head: ','}}, many/4)
	wantThereAndBack(t, api.Code{Casts: []api.Waits{{Co: some}, {Co: some}}}, 2*len("cast \"\" \"\"\n")+2*len(" 4.-1.1.44.0.0.0")*many/4)
}

// Far behind, too, the first line that cannot stand there is told; and at once, however much stands there.
func TestRefusedFarBehind(t *testing.T) {
	const many = 1 << 16
	nums, body := strings.Repeat("num 1\n", many), strings.Repeat(" ret 0 0\n", many)
	wantRefused(t, nums+"num 01\n"+nums, many+1)
	wantRefused(t, nums+body, many+1)
	wantRefused(t, nums+"fn : \"\" \"\"\n"+body+nums, 2*many+2)
	wantRefused(t, nums+"fn : \"\" \"\"\n"+body+"fn : \"\"\n"+body, 2*many+2)
	wantRefused(t, nums+"type \"i\"\n"+nums, many+2)
	for _, s := range []string{"0", "1", "-", "a", " ", "\n", "\"", "\\", "\\x", "\\x00", ".", ":", "#", "fn ", "num ", "\x00", "\xff", " \"\"", "1.0.0.0.0.0.0 "} {
		long := strings.Repeat(s, 1<<18)
		for _, line := range []string{"", "num ", "num 1", "text \"", "cast \"\" \"", "cast \"\" \"\" ", "cast \"\" \"\" 1.", "fn ", "fn : \"", " ", " #", " #24 ", " call 0 "} {
			if line == "num 1" && s == "\n" { // that line can stand
				wantRefused(t, "num 7\n"+line+long, 3)
			} else {
				wantRefused(t, "num 7\n"+line+long, 2)
			}
			wantRefused(t, "fn : \"\" \"\"\n ret 0 0\n"+line+long+"\n", 3)
		}
	}
}

// So many parts nested in one another as the promises reach to, and lists that are far from whole.
func TestHighCoercions(t *testing.T) {
	const high = 1 << 16
	wantHeight(t, high, nodes(strings.Repeat("l", high-1)+"i"))
	wantHeight(t, 0, nodes(strings.Repeat("l", high)))
	wantHeight(t, 0, nodes(strings.Repeat("l", high-1)+"ii"))
	for _, step := range []string{">", ",", "x"} {
		wantHeight(t, high, nodes(strings.Repeat(step, high-1)+strings.Repeat("i", high)))
		wantHeight(t, high, nodes(strings.Repeat(step+"i", high-1)+"i"))
		wantHeight(t, 0, nodes(strings.Repeat(step, high-1)+strings.Repeat("i", high-1)))
		wantHeight(t, 0, nodes(strings.Repeat(step, high-1)+strings.Repeat("i", high+1)))
		wantHeight(t, 0, nodes(strings.Repeat(step, 1<<18)))
	}
	wantHeight(t, 0, nodes(strings.Repeat("i", 1<<18)))
	wide := api.Code{Casts: slices.Repeat([]api.Waits{{Co: nodes(strings.Repeat("l", 15) + "i")}}, 1<<16)}
	if got := code.Height(wide); got != 16 {
		t.Errorf("P18.3: Height = %d; want 16", got)
	}
	deep := api.Code{Casts: []api.Waits{{Co: nodes(strings.Repeat("l", high-1) + "i")}}}
	text := "cast \"\" \"\"" + strings.Repeat(" 5.0.0.108.0.0.0", high-1) + " 2.0.0.105.0.0.0\n"
	if got := code.Show(deep); got != text {
		t.Errorf("P18.2: Show tells %d bytes; want %d", len(got), len(text))
	}
	wantCode(t, text, deep)
}

// At MaxCode instructions, which is a limit of other layers, and beyond it.
func TestBeyondMaxCode(t *testing.T) {
	for _, n := range []int{api.MaxCode - 1, api.MaxCode, api.MaxCode + 1} {
		c := api.Code{Functions: []api.Function{{Result: "i"}}}
		var text strings.Builder
		text.WriteString("fn : \"\" \"i\"\n")
		for i := range n {
			c.Functions[0].Code = append(c.Functions[0].Code, api.Ins{Op: code.Jump, A: i + 1})
			text.WriteString(" jump " + strconv.Itoa(i+1) + " 0\n")
		}
		wantLines(t, c, text.String())
		if got := code.Size(c); got != n {
			t.Errorf("P18.3: Size = %d; want %d", got, n)
		}
	}
}
