package code_test

import (
	"strings"
	"testing"
	"unsafe"

	"culprit/api"
	"culprit/code"
)

// overwrite puts something else into all that a code's lists hold, from the places so far on, their spare room too.
func overwrite(c api.Code, so func(length int) int) {
	over(c.Nums, so, -77)
	over(c.Texts, so, "spare")
	over(c.Types, so, "spare")
	for _, w := range c.Casts {
		over(w.Co, so, api.Co{Op: 77, Proj: 77})
	}
	over(c.Casts, so, api.Waits{From: "spare"})
	for _, f := range c.Functions {
		over(f.Env, so, "spare")
		over(f.Code, so, api.Ins{Op: 77, A: 77, B: 77})
	}
	over(c.Functions, so, api.Function{Param: "spare"})
}

func over[T any](l []T, so func(length int) int, with T) {
	all := l[:cap(l)]
	for i := so(len(l)); i < len(all); i++ {
		all[i] = with
	}
}

func spareAlone(length int) int { return length }

func everything(int) int { return 0 }

// roomy: a copy of a code whose lists all have spare room.
func roomy(c api.Code) api.Code {
	r := api.Code{Nums: wide(c.Nums), Texts: wide(c.Texts), Types: wide(c.Types), Casts: wide(c.Casts), Functions: wide(c.Functions)}
	for i := range r.Casts {
		r.Casts[i].Co = wide(r.Casts[i].Co)
	}
	for i := range r.Functions {
		r.Functions[i].Env, r.Functions[i].Code = wide(r.Functions[i].Env), wide(r.Functions[i].Code)
	}
	return r
}

func wide[T any](l []T) []T {
	return append(make([]T, 0, len(l)+3), l...)
}

// spareOf: what stands in the spare room of all of a code's lists.
func spareOf(c api.Code) string {
	s := told(c.Nums[len(c.Nums):cap(c.Nums)]) + told(c.Texts[len(c.Texts):cap(c.Texts)]) + told(c.Types[len(c.Types):cap(c.Types)]) + told(c.Casts[len(c.Casts):cap(c.Casts)]) + told(c.Functions[len(c.Functions):cap(c.Functions)])
	for _, w := range c.Casts {
		s += told(w.Co[len(w.Co):cap(w.Co)])
	}
	for _, f := range c.Functions {
		s += told(f.Env[len(f.Env):cap(f.Env)]) + told(f.Code[len(f.Code):cap(f.Code)])
	}
	return s
}

// R5: a code that is handed in stays as it was, its spare room too; R6: the same is told of it each time.
func TestCodesStay(t *testing.T) {
	var d dice = 11
	for range 3000 {
		c := d.code()
		text := linesOf(c)
		r := roomy(c)
		overwrite(r, spareAlone)
		before := spareOf(r)
		high, size := code.Height(r), code.Size(r)
		wantLines(t, r, text)
		code.Show(d.code())
		if !same(r, c) || spareOf(r) != before {
			t.Fatalf("R5: a code is changed: %s", text)
		}
		if code.Height(c) != high || code.Size(c) != size {
			t.Fatalf("R6: of %s: other answers the second time", text)
		}
	}
}

// R5: what is told of a code does not hang on it any more.
func TestTextsAreNew(t *testing.T) {
	var d dice = 12
	for range 2000 {
		c := d.code()
		want := linesOf(c)
		got := code.Show(c)
		overwrite(c, everything)
		if got != want {
			t.Fatalf("R5: a text hangs on the code: %q; want %q", got, want)
		}
	}
}

// R5: each list that Read answers is memory of its own, its spare room too.
func TestCodesAreNew(t *testing.T) {
	var d dice = 13
	for range 3000 {
		c := d.code()
		text := linesOf(c)
		one, _, _ := code.Read(text)
		other, _, _ := code.Read(text)
		overwrite(one, spareAlone)
		if !same(one, c) {
			t.Fatalf("R5: of %q: one list stands in the spare room of another one", text)
		}
		overwrite(one, everything)
		if !same(other, c) {
			t.Fatalf("R5: of %q: two answers share memory", text)
		}
		wantCode(t, text, c)
	}
}

// R5: no two lists of an answer have the same spare room: what is put behind one is not seen behind another.
func TestSpareRoomIsNotShared(t *testing.T) {
	text := strings.Repeat("num 1\n", 5) + strings.Repeat("text \"a\"\n", 5) + strings.Repeat("type \"a\"\n", 5) +
		strings.Repeat("cast \"\" \"\" 1.0.0.0.0.0.0 1.0.0.0.0.0.0 1.0.0.0.0.0.0\n", 5) + strings.Repeat("fn \"a\" \"a\" \"a\" : \"\" \"\"\n ret 0 0\n ret 0 0\n ret 0 0\n", 5)
	c, _, _ := code.Read(text)
	lists := []*[]string{&c.Texts, &c.Types}
	for i := range c.Functions {
		lists = append(lists, &c.Functions[i].Env)
	}
	for i, l := range lists {
		*l = append(*l, string(rune('b'+i)))
	}
	for i := range c.Functions {
		c.Functions[i].Code = append(c.Functions[i].Code, api.Ins{A: i})
		c.Casts[i].Co = append(c.Casts[i].Co, api.Co{Proj: int64(i)})
	}
	for i, l := range lists {
		if got := strings.Join(*l, ""); strings.Trim(got, "a") != string(rune('b'+i)) {
			t.Errorf("R5: the list %d is %s", i, got)
		}
	}
	for i := range c.Functions {
		if c.Functions[i].Code[3].A != i || c.Casts[i].Co[3].Proj != int64(i) {
			t.Errorf("R5: the function or the cast %d has another one's spare room", i)
		}
	}
}

// R5: the text that is handed in is not kept: no text of the code is a piece of it.
func TestTheTextIsNotKept(t *testing.T) {
	long := strings.Repeat("long", 30)
	text := linesOf(ofText(long)) + " ret 0 0\n"
	from := uintptr(unsafe.Pointer(unsafe.StringData(text)))
	check := func(all ...string) {
		for _, s := range all {
			at := uintptr(unsafe.Pointer(unsafe.StringData(s)))
			if s != "" && at >= from && at < from+uintptr(len(text)) {
				t.Errorf("R5: %.20q is a piece of the text that was handed in", s)
			}
		}
	}
	c, e, _ := code.Read(text)
	if e != api.OK {
		t.Fatalf("P18.2: Read: %d", e)
	}
	check(c.Texts...)
	check(c.Types...)
	for _, w := range c.Casts {
		check(w.From, w.To)
	}
	for _, f := range c.Functions {
		check(f.Param, f.Result)
		check(f.Env...)
	}
}

// R6: calls know nothing of each other, those that run at the same time neither.
func TestCallsAtTheSameTime(t *testing.T) {
	done := make(chan bool)
	for n := range 4 {
		go func() {
			d := dice(n)
			for range 500 {
				c := d.code()
				wantLines(t, c, linesOf(c))
				text := d.spoilt(linesOf(c) + "num 7\n")
				wantAsWords(t, text)
			}
			done <- true
		}()
	}
	for range 4 {
		<-done
	}
}
