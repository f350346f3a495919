package code_test

import (
	"fmt"
	"math"
	"math/big"
	"regexp"
	"slices"
	"strconv"
	"strings"
	"testing"

	"culprit/api"
	"culprit/code"
)

// opNames: the chapter's table, the name of each op from 1 on.
const opNames = "push text truth local fn rec call tail ret jump unless let end op pair part list cons box get set cast pend"

// same: two codes are the same, a list that is nil and one without elements too.
func same(a, b api.Code) bool {
	casts := slices.EqualFunc(a.Casts, b.Casts, func(v, w api.Waits) bool {
		return v.From == w.From && v.To == w.To && slices.Equal(v.Co, w.Co)
	})
	functions := slices.EqualFunc(a.Functions, b.Functions, func(f, g api.Function) bool {
		return f.Param == g.Param && f.Result == g.Result && slices.Equal(f.Env, g.Env) && slices.Equal(f.Code, g.Code)
	})
	return casts && functions && slices.Equal(a.Nums, b.Nums) && slices.Equal(a.Texts, b.Texts) && slices.Equal(a.Types, b.Types)
}

// inQuotes follows the chapter's words a second time.
func inQuotes(s string) string {
	told := ""
	for _, b := range []byte(s) {
		if b >= ' ' && b <= '~' && !strings.Contains(`"\`, string(rune(b))) {
			told += string(rune(b))
		} else {
			told += fmt.Sprintf(`\x%02x`, b)
		}
	}
	return `"` + told + `"`
}

// linesOf: the lines of code, by the chapter's words.
func linesOf(c api.Code) string {
	var l strings.Builder
	for _, n := range c.Nums {
		fmt.Fprintf(&l, "num %d\n", n)
	}
	for _, s := range c.Texts {
		fmt.Fprintf(&l, "text %s\n", inQuotes(s))
	}
	for _, s := range c.Types {
		fmt.Fprintf(&l, "type %s\n", inQuotes(s))
	}
	for _, w := range c.Casts {
		fmt.Fprintf(&l, "cast %s %s", inQuotes(w.From), inQuotes(w.To))
		for _, n := range w.Co {
			inj := map[bool]int{true: 1}[n.Inj]
			fmt.Fprintf(&l, " %d.%d.%d.%d.%d.%d.%d", n.Op, n.Proj, inj, n.Head, n.Label, n.From, n.To)
		}
		l.WriteString("\n")
	}
	for _, f := range c.Functions {
		words := []string{"fn"}
		for _, s := range f.Env {
			words = append(words, inQuotes(s))
		}
		words = append(words, ":", inQuotes(f.Param), inQuotes(f.Result))
		l.WriteString(strings.Join(words, " ") + "\n")
		for _, i := range f.Code {
			name := fmt.Sprintf("#%d", i.Op)
			if i.Op >= 1 && i.Op <= 23 {
				name = strings.Fields(opNames)[i.Op-1]
			}
			fmt.Fprintf(&l, " %s %d %d\n", name, i.A, i.B)
		}
	}
	return l.String()
}

const (
	aNumber = `(-?[0-9]+)`
	aText   = `("(?:[ !#-\[\]-~]|\\x[0-9a-f]{2})*")`
)

var (
	simpleLine = regexp.MustCompile(`^(num|text|type) (?:` + aNumber + `|` + aText + `)$`)
	castLine   = regexp.MustCompile(`^cast ` + aText + ` ` + aText + `((?: [-0-9.]+)*)$`)
	fnLine     = regexp.MustCompile(`^fn ((?:` + aText + ` )*): ` + aText + ` ` + aText + `$`)
	insLine    = regexp.MustCompile(`^ ([a-z]+|#-?[0-9]+) ` + aNumber + ` ` + aNumber + `$`)
	textInLine = regexp.MustCompile(aText)
)

// reading: what a second reader of the chapter's lines has read so far.
type reading struct {
	c    api.Code
	kind int // of the last line: 0 to 3 by their order, 4 of functions
	ok   bool
}

// number: one that stands in a text as it is told, from low to high.
func (r *reading) number(told string, low, high int64) int64 {
	n, ok := new(big.Int).SetString(told, 10)
	if !ok || n.String() != told || n.Cmp(big.NewInt(low)) < 0 || n.Cmp(big.NewInt(high)) > 0 {
		r.ok = false
		return 0
	}
	return n.Int64()
}

func (r *reading) text(told string) string {
	s, err := strconv.Unquote(told)
	r.ok = r.ok && err == nil && inQuotes(s) == told
	return s
}

func (r *reading) node(told string) api.Co {
	fields := strings.Split(told, ".")
	if len(fields) != 7 {
		r.ok = false
		return api.Co{}
	}
	var n [7]int64
	for i, ends := range [7][2]int64{{-128, 127}, {math.MinInt64, math.MaxInt64}, {0, 1}, {0, 255}, {math.MinInt64, math.MaxInt64}, {0, 255}, {0, 255}} {
		n[i] = r.number(fields[i], ends[0], ends[1])
	}
	return api.Co{Op: int8(n[0]), Proj: n[1], Inj: n[2] == 1, Head: byte(n[3]), Label: n[4], From: byte(n[5]), To: byte(n[6])}
}

func (r *reading) op(told string) int8 {
	number, ok := strings.CutPrefix(told, "#")
	if !ok {
		at := slices.Index(strings.Fields(opNames), told)
		r.ok = r.ok && at >= 0
		return int8(at + 1)
	}
	n := r.number(number, -128, 127)
	r.ok = r.ok && (n < 1 || n > 23)
	return int8(n)
}

// goesOn: a line of that kind may stand behind those that have been read.
func (r *reading) goesOn(kind int) {
	r.ok = r.ok && r.kind <= kind
	r.kind = kind
}

func (r *reading) line(l string) {
	c := &r.c
	if m := simpleLine.FindStringSubmatch(l); m != nil {
		r.ok = r.ok && (m[1] == "num") == (m[2] != "")
		switch m[1] {
		case "num":
			r.goesOn(0)
			c.Nums = append(c.Nums, r.number(m[2], math.MinInt64, math.MaxInt64))
		case "text":
			r.goesOn(1)
			c.Texts = append(c.Texts, r.text(m[3]))
		case "type":
			r.goesOn(2)
			c.Types = append(c.Types, r.text(m[3]))
		}
	} else if m := castLine.FindStringSubmatch(l); m != nil {
		r.goesOn(3)
		w := api.Waits{From: r.text(m[1]), To: r.text(m[2])}
		for _, n := range strings.Fields(m[3]) {
			w.Co = append(w.Co, r.node(n))
		}
		c.Casts = append(c.Casts, w)
	} else if m := fnLine.FindStringSubmatch(l); m != nil {
		r.goesOn(4)
		f := api.Function{Param: r.text(m[3]), Result: r.text(m[4])}
		for _, s := range textInLine.FindAllString(m[1], -1) {
			f.Env = append(f.Env, r.text(s))
		}
		c.Functions = append(c.Functions, f)
	} else if m := insLine.FindStringSubmatch(l); m != nil && len(c.Functions) > 0 {
		f := &c.Functions[len(c.Functions)-1]
		f.Code = append(f.Code, api.Ins{Op: r.op(m[1]), A: int(r.number(m[2], math.MinInt, math.MaxInt)), B: int(r.number(m[3], math.MinInt, math.MaxInt))})
	} else {
		r.ok = false
	}
}

// codeOf: the code that a text is told of, and 0; or no code, and the number of the first line that cannot stand there.
func codeOf(text string) (api.Code, int) {
	r := reading{ok: true}
	lines := strings.SplitAfter(text, "\n")
	for i, l := range lines {
		if i == len(lines)-1 && l == "" {
			break
		}
		line, ends := strings.CutSuffix(l, "\n")
		r.ok = r.ok && ends
		r.line(line)
		if !r.ok {
			return api.Code{}, i + 1
		}
	}
	return r.c, 0
}

// told: what a test says of something large.
func told(what any) string { return fmt.Sprintf("%.200s", fmt.Sprintf("%+v", what)) }

// wantLines: there and back.
func wantLines(t *testing.T, c api.Code, text string) {
	t.Helper()
	if got := code.Show(c); got != text {
		t.Errorf("P18.2: Show(%s) = %.200q; want %.200q", told(c), got, text)
	}
	wantCode(t, text, c)
}

func wantCode(t *testing.T, text string, c api.Code) {
	t.Helper()
	if got, e, at := code.Read(text); e != api.OK || at != 0 || !same(got, c) {
		t.Errorf("P18.2: Read(%.200q) = %s, %d, %d; want %s", text, told(got), e, at, told(c))
	}
}

func wantRefused(t *testing.T, text string, line int) {
	t.Helper()
	if got, e, at := code.Read(text); e != api.ErrLine || at != line || !same(got, api.Code{}) {
		t.Errorf("P18.2: Read(%.200q) = %s, %d, %d; want ErrLine %d", text, told(got), e, at, line)
	}
}

// wantAsWords holds Read of any text against the chapter's words, and Show of what it takes; it tells whether it takes the text.
func wantAsWords(t *testing.T, text string) bool {
	t.Helper()
	c, line := codeOf(text)
	if line > 0 {
		wantRefused(t, text, line)
		return false
	}
	wantLines(t, c, text)
	return true
}
