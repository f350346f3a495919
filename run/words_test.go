package run_test

import (
	"fmt"
	"reflect"
	"testing"

	"culprit/api"
	"culprit/coerce"
	"culprit/rough"
	"culprit/run"
	"culprit/sample"
	"culprit/verify"
)

func nameOf(e api.Errno) string {
	return map[api.Errno]string{
		api.OK: "OK", api.ErrArg: "ErrArg", api.ErrShape: "ErrShape", api.ErrLarge: "ErrLarge", api.ErrEnd: "ErrEnd", api.ErrOp: "ErrOp", api.ErrLocal: "ErrLocal",
		api.ErrFn: "ErrFn", api.ErrCast: "ErrCast", api.ErrStack: "ErrStack", api.ErrKind: "ErrKind", api.ErrRow: "ErrRow", api.ErrFrom: "ErrFrom",
	}[e]
}

// told writes what Loose answers: the trap; or what is seen, the steps, the frames, the casts.
func told(r api.Result, trap api.Trap) string {
	switch {
	case trap == api.Trap{}:
		return fmt.Sprintf("%s %d %d %d", sample.Told(r.Seen), r.Steps, r.Frames, r.Casts)
	case len(r.Seen) > 0 || r.Steps != 0 || r.Frames != 0 || r.Casts != 0:
		return fmt.Sprint("both ", r, trap)
	}
	return fmt.Sprintf("%s %d %d", nameOf(trap.Err), trap.Fn, trap.At)
}

// toldRun writes what Run answers: the error; or as told does it.
func toldRun(r api.Result, e api.Errno) string {
	if e != api.OK {
		return told(r, api.Trap{Err: e})
	}
	return told(r, api.Trap{})
}

// wantCode asks for what Loose answers of a code with much fuel; with less it is to be out of fuel up to where it ends. If the code may run, Run is to answer the same.
func wantCode(t *testing.T, c api.Code, depth int, want string) {
	t.Helper()
	if got := told(run.Loose(c, 900, depth)); got != want {
		t.Errorf("P21.2: %s: %s, not %s", rough.Written(c), got, want)
		return
	}
	trap, may := verify.Code(c)
	for fuel := 0; fuel <= 900; fuel++ {
		r, x := run.Loose(c, fuel, depth)
		if s, e := run.Run(c, fuel, depth); may && (e != x.Err || !reflect.DeepEqual(s, r)) || !may && toldRun(s, e) != nameOf(trap.Err)+" 0 0" {
			t.Errorf("P21.1: %s, fuel %d: %s, where Loose tells %s", rough.Written(c), fuel, toldRun(s, e), told(r, x))
		}
		if len(r.Seen) != 1 || r.Seen[0] != (api.Obs{Kind: api.OFuel}) {
			if got := told(r, x); got != want || x == (api.Trap{}) && r.Steps != fuel {
				t.Errorf("P21.2: %s, fuel %d: %s, not %s", rough.Written(c), fuel, got, want)
			}
			return
		}
		if r.Steps != fuel || x != (api.Trap{}) {
			t.Errorf("P21.2: %s, fuel %d: out of it at %s", rough.Written(c), fuel, told(r, x))
			return
		}
	}
}

// want asks for what codes as texts do, each with what is wanted of it: the trap, or what is seen, the steps, the frames, the casts.
func want(t *testing.T, rows ...string) {
	t.Helper()
	for n := 0; n < len(rows); n += 2 {
		wantCode(t, rough.Read(rows[n]), 9, rows[n+1])
	}
}

// coercing answers code whose casts are coercions by their texts; those that are none may not be.
func coercing(text string, coercions ...string) api.Code {
	c := rough.Read(text)
	for _, s := range coercions {
		co, e := coerce.Parse(s)
		if e != api.OK {
			co = []api.Co{{Op: api.CoBase, Head: 'z'}}
		}
		c.Casts = append(c.Casts, api.Waits{From: "?", To: "?", Co: co})
	}
	return c
}

// wantCoercing asks for what a code does whose casts are these coercions.
func wantCoercing(t *testing.T, text string, want string, coercions ...string) {
	t.Helper()
	wantCode(t, coercing(text, coercions...), 9, want)
}
