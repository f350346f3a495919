package coerce_test

import (
	"math"
	"regexp"
	"slices"
	"strconv"
	"strings"
	"testing"

	"culprit/api"
	"culprit/coerce"
)

const (
	letters = "ibt?>,lx"
	heads   = "ibt>,lx"
)

// nodeText cuts a node off a text, whether it may be or not; no packages that are tested are needed for it.
var nodeText = regexp.MustCompile(`^(?:(-?[0-9]+)\?)?(!?)(?:(\?)|#(-?[0-9]+)(.)(.)|(.))`)

// list answers the nodes that a text is written of, whatever they are to each other.
func list(text string) []api.Co {
	number := func(s string) int64 {
		n, _ := strconv.ParseInt(s, 10, 64)
		return n
	}
	var all []api.Co
	for text != "" {
		m := nodeText.FindStringSubmatch(text)
		n := api.Co{Proj: number(m[1]), Inj: m[2] != ""}
		switch {
		case m[3] != "":
			n.Op = api.CoAny
		case m[4] != "":
			n.Op, n.Label, n.Head, n.From, n.To = api.CoFail, number(m[4]), m[5][0], m[5][0], m[6][0]
		default:
			n.Head = m[7][0]
			n.Op = map[byte]int8{'i': api.CoBase, 'b': api.CoBase, 't': api.CoBase, '>': api.CoFun, ',': api.CoPair, 'l': api.CoList, 'x': api.CoBox}[n.Head]
		}
		all, text = append(all, n), text[len(m[0]):]
	}
	return all
}

// told writes nodes as the chapter says, whether they may be or not.
func told(c []api.Co) string {
	s := ""
	for i, n := range c {
		if i == 60 {
			return s + " .. (" + strconv.Itoa(len(c)) + " nodes)"
		}
		s += nodeTold(n)
	}
	return s
}

func nodeTold(n api.Co) string {
	s := ""
	if n.Proj != 0 {
		s += strconv.FormatInt(n.Proj, 10) + "?"
	}
	if n.Inj {
		s += "!"
	}
	switch n.Op {
	case api.CoAny:
		return s + "?"
	case api.CoFail:
		return s + "#" + strconv.FormatInt(n.Label, 10) + string(rune(n.From)) + string(rune(n.To))
	}
	return s + string(rune(n.Head))
}

func arity(head byte) int {
	return map[byte]int{'l': 1, 'x': 1, '>': 2, ',': 2}[head]
}

// apart cuts the first type off a text.
func apart(t string) (first, rest string) {
	end := 1
	for range arity(t[0]) {
		part, _ := apart(t[end:])
		end += len(part)
	}
	return t[:end], t[end:]
}

func partsOf(t string) []string {
	var parts []string
	for rest := t[1:]; rest != ""; {
		var part string
		part, rest = apart(rest)
		parts = append(parts, part)
	}
	return parts
}

func groundOf(head byte) string {
	return string(rune(head)) + strings.Repeat("?", arity(head))
}

func consistent(s, t string) bool {
	if s == "?" || t == "?" {
		return true
	}
	if s[0] != t[0] {
		return false
	}
	others := partsOf(t)
	for i, part := range partsOf(s) {
		if !consistent(part, others[i]) {
			return false
		}
	}
	return true
}

// allTypes answers all types of at most long letters, the short ones first.
func allTypes(long int) []string {
	bySize := make([][]string, long+1)
	var all []string
	for size := 1; size <= long; size++ {
		for _, head := range strings.Split(letters, "") {
			switch n := arity(head[0]); {
			case n == 0 && size == 1:
				bySize[size] = append(bySize[size], head)
			case n == 1:
				for _, part := range bySize[size-1] {
					bySize[size] = append(bySize[size], head+part)
				}
			case n == 2:
				for left := 1; left < size-1; left++ {
					for _, from := range bySize[left] {
						for _, to := range bySize[size-1-left] {
							bySize[size] = append(bySize[size], head+from+to)
						}
					}
				}
			}
		}
		all = append(all, bySize[size]...)
	}
	return all
}

// noTypes: of each way not to be a type one or some.
func noTypes() []string {
	return []string{"", "z", "ii", ">", ">i", ">iz", "l", "li?", ",iii", " i", "i ", "I", "int", "??", "?\x00", "\x00", "\xff", strings.Repeat("l", 64), strings.Repeat("l", 64) + "i", strings.Repeat("?", 65), strings.Repeat("x", 1<<16)}
}

// someLabels: those at the edges, and some between.
func someLabels() []int64 {
	return []int64{1, -1, 2, -2, 5, -5, 99, -1000, math.MaxInt32 - 1, 1 - math.MaxInt32, math.MaxInt32, -math.MaxInt32}
}

func noLabels() []int64 {
	return []int64{0, 1 << 31, -1 << 31, 1<<31 + 1, -1<<31 - 1, 1 << 32, 1<<32 + 1, -1<<32 - 1, math.MaxInt64, math.MinInt64, math.MinInt64 + 1}
}

// wantMay asks May, and the calls that must agree with it.
func wantMay(t *testing.T, c []api.Co, want bool) {
	t.Helper()
	if got := coerce.May(c); got != want {
		t.Errorf("P13.2: May(%s) = %v: %+v", told(c), got, c[:min(len(c), 5)])
	}
	if want {
		return
	}
	if h := coerce.Height(c); h != 0 {
		t.Errorf("P13.2: Height(%s) = %d of what may not be", told(c), h)
	}
	if coerce.IsId(c) {
		t.Errorf("P13.2: IsId(%s) of what may not be", told(c))
	}
	if s, e := coerce.Text(c); s != "" || e != api.ErrShape {
		t.Errorf("P13.6: Text(%s) = %q, %d of what may not be", told(c), s, e)
	}
}

func wantThen(t *testing.T, s, u, want string) {
	t.Helper()
	wantThenOf(t, list(s), list(u), list(want))
}

func wantThenOf(t *testing.T, s, u, want []api.Co) {
	t.Helper()
	if !coerce.Meet(s, u) {
		t.Errorf("P13.4: Meet(%s, %s) = false", told(s), told(u))
	}
	if got, e := coerce.Then(s, u); e != api.OK || !slices.Equal(got, want) {
		t.Errorf("P13.5: Then(%s, %s) = %s, %d; want %s", told(s), told(u), told(got), e, told(want))
	}
}

// wantApart: two that may be, and do not meet.
func wantApart(t *testing.T, s, u string) {
	t.Helper()
	wantMay(t, list(s), true)
	wantMay(t, list(u), true)
	if coerce.Meet(list(s), list(u)) {
		t.Errorf("P13.4: Meet(%s, %s) = true", s, u)
	}
	if got, e := coerce.Then(list(s), list(u)); e != api.ErrMeet || len(got) != 0 {
		t.Errorf("P13.5: Then(%s, %s) = %s, %d; want ErrMeet", s, u, told(got), e)
	}
}
