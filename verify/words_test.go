package verify_test

import (
	"fmt"
	"slices"
	"strings"
	"testing"

	"culprit/api"
	"culprit/rough"
	"culprit/verify"
)

func nameOf(e api.Errno) string {
	return map[api.Errno]string{
		api.ErrShape: "ErrShape", api.ErrLarge: "ErrLarge", api.ErrEnd: "ErrEnd", api.ErrOp: "ErrOp", api.ErrLocal: "ErrLocal", api.ErrFn: "ErrFn",
		api.ErrCast: "ErrCast", api.ErrStack: "ErrStack", api.ErrKind: "ErrKind", api.ErrRow: "ErrRow", api.ErrFrom: "ErrFrom",
	}[e]
}

// told writes what Code answers: good, or the trap.
func told(trap api.Trap, ok bool) string {
	if ok != (trap == api.Trap{}) {
		return fmt.Sprint(trap, ok)
	}
	if ok {
		return "good"
	}
	return fmt.Sprintf("%s %d %d", nameOf(trap.Err), trap.Fn, trap.At)
}

// wantCode asks for what Code answers of a code.
func wantCode(t *testing.T, c api.Code, want string) {
	t.Helper()
	if got := told(verify.Code(c)); got != want {
		t.Errorf("P20.1: %s: %s, not %s", rough.Written(c), got, want)
	}
}

// want asks for what Code answers of codes as texts, each with what is wanted of it.
func want(t *testing.T, rows ...string) {
	t.Helper()
	for n := 0; n < len(rows); n += 2 {
		wantCode(t, rough.Read(rows[n]), rows[n+1])
	}
}

// list writes a list of types; one without any is a stroke.
func list(types []string) string {
	if len(types) == 0 {
		return "-"
	}
	return strings.Join(types, " ")
}

// wantTypes asks for the row and the stack at a place.
func wantTypes(t *testing.T, c api.Code, fn, at int, row, stack string) {
	t.Helper()
	r, s, ok := verify.Types(c, fn, at)
	if !ok || list(r) != row || list(s) != stack {
		t.Errorf("P20.2: %s: at %d %d the row %s, the stack %s, %v; not %s, %s", rough.Written(c), fn, at, list(r), list(s), ok, row, stack)
	}
}

// wantNoTypes asks for nothing at a place.
func wantNoTypes(t *testing.T, c api.Code, fn, at int) {
	t.Helper()
	if r, s, ok := verify.Types(c, fn, at); ok || len(r) > 0 || len(s) > 0 {
		t.Errorf("P20.2: %s: at %d %d the row %s, the stack %s, %v", rough.Written(c), fn, at, list(r), list(s), ok)
	}
}

// laid answers code with a function 1 that has things of these types laid on its stack, the latest last, then does an instruction, and ends: by putting left things of the stack into the row, and returning a number. The instruction stands at the place len(stack).
func laid(c api.Code, stack []string, i api.Ins, left int) api.Code {
	c = rough.Clone(c)
	for len(c.Functions) < 2 {
		c.Functions = append(c.Functions, api.Function{})
	}
	c.Functions[0] = rough.Read("i: push, ret").Functions[0]
	f := rough.Read("i: push, ret / i i: " + strings.Repeat("let, ", left) + "push, ret").Functions[1]
	f.Env = slices.Clone(stack)
	var all []api.Ins
	for n := range stack {
		all = append(all, api.Ins{Op: 4, A: 1 + n})
	}
	f.Code = append(append(all, i), f.Code...)
	c.Functions[1] = f
	return c
}
