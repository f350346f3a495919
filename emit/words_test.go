package emit_test

import (
	"fmt"
	"reflect"
	"strings"
	"testing"

	"culprit/api"
	"culprit/code"
	"culprit/emit"
	"culprit/sample"
)

// short writes a text so that a line of a test's report stays short.
func short(s string) string {
	if len(s) > 1500 {
		return s[:1500] + " .."
	}
	return s
}

// told writes code on one line.
func told(c api.Code) string { return short(strings.ReplaceAll(code.Show(c), "\n", "|")) }

// bodies writes the instructions of each function, with both numbers each.
func bodies(c api.Code) string {
	var all []string
	for _, f := range c.Functions {
		var one []string
		for _, i := range f.Code {
			one = append(one, fmt.Sprintf("%s %d %d", code.Name(i.Op), i.A, i.B))
		}
		all = append(all, strings.Join(one, ", "))
	}
	return strings.Join(all, " / ")
}

// padded writes instructions, of which numbers that are 0 are left out, with both numbers each.
func padded(text string) string {
	var all []string
	for _, body := range strings.Split(text, " / ") {
		var one []string
		for _, i := range strings.Split(body, ", ") {
			words := strings.Fields(i)
			for len(words) < 3 {
				words = append(words, "0")
			}
			one = append(one, strings.Join(words, " "))
		}
		all = append(all, strings.Join(one, ", "))
	}
	return strings.Join(all, " / ")
}

// good answers the code of a term that has one.
func good(t *testing.T, l []api.Node) api.Code {
	t.Helper()
	c, e, node := emit.Emit(l)
	if e != api.OK || node != 0 {
		t.Fatalf("P19.1: %s: %d at %d", sample.Written(l), e, node)
	}
	return c
}

// wantBodies asks for the instructions alone: those of each function, the functions parted by a stroke.
func wantBodies(t *testing.T, text, want string) {
	t.Helper()
	if got := bodies(good(t, sample.Term(text))); got != padded(want) {
		t.Errorf("%s:\n%s; not\n%s", text, short(got), short(padded(want)))
	}
}

// wantLines asks for all of the code, a word of it a line of code.Show.
func wantLines(t *testing.T, l []api.Node, lines ...string) {
	t.Helper()
	c := good(t, l)
	if got := code.Show(c); got != strings.Join(lines, "\n")+"\n" {
		t.Errorf("%s:\n%s; not\n%s", sample.Written(l), told(c), short(strings.Join(lines, "|")))
	}
}

// wantRefused asks for the error, its node, and nothing beside it.
func wantRefused(t *testing.T, l []api.Node, e api.Errno, node int) {
	t.Helper()
	c, got, at := emit.Emit(l)
	if got != e || at != node || !reflect.DeepEqual(c, api.Code{}) {
		t.Errorf("P19.1: %s: %d at %d, %s; not %d at %d", sample.Written(l), got, at, told(c), e, node)
	}
}
