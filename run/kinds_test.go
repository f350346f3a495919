package run_test

import (
	"fmt"
	"strings"
	"testing"

	"culprit/api"
	"culprit/rough"
	"culprit/run"
)

// kinds: things of each kind, as what lays them; bare, tagged, wrapped, and both.
func kinds() map[string][]string {
	bare := map[string][2]string{
		"i": {"push", "i"}, "t": {"text", "t"}, "b": {"truth 1", "b"}, ">": {"fn 1", ">ii"}, ",": {"push, text, pair", ",it"}, "l": {"push, list 1 i", "li"}, "x": {"push, box", "xi"},
	}
	other := map[string]string{">": ">??", ",": ",?t", "l": "l?", "x": "x?"}
	all := map[string][]string{}
	for kind, one := range bare {
		all[kind] = append(all[kind], one[0])
		all["?"] = append(all["?"], one[0]+", cast "+one[1]+" ?")
		if to := other[kind]; to != "" {
			all[kind] = append(all[kind], one[0]+", cast "+one[1]+" "+to)
			all["?"] = append(all["?"], one[0]+", cast "+one[1]+" "+to+", cast "+to+" ?")
		}
	}
	return all
}

// wantKinds asks whether an instruction takes things of some kinds: of others it is to tell ErrKind at its place.
func wantKinds(t *testing.T, ins string, laid []string, takes bool) {
	t.Helper()
	c := rough.Read("i: " + strings.Join(append(laid, ins), ", ") + ", ret / i i: local, ret")
	at := len(c.Functions[0].Code) - 2 // ahead of the ret
	got := told(run.Loose(c, 99, 9))
	if want := fmt.Sprintf("ErrKind 0 %d", at); (got == want) == takes {
		t.Errorf("P21.2: %s behind %q: %s", ins, laid, got)
	}
}

// A value of each other kind in each place of each instruction, bare, tagged and under wrappers.
func TestKinds(t *testing.T) {
	all := kinds()
	for ins, places := range map[string][]string{
		"op Add": {"i", "i"}, "op Sub": {"i", "i"}, "op Mul": {"i", "i"}, "op Eq": {"i", "i"}, "op Less": {"i", "i"}, "op Join": {"t", "t"}, "op Neg": {"i"}, "op Size": {"t"},
		"part First": {","}, "part Second": {","}, "part Head": {"l"}, "part Tail": {"l"}, "part Empty": {"l"}, "get": {"x"},
		"unless 1": {"b"}, "call": {">"}, "tail": {">"}, "set": {"x"}, "cons": {"", "l"},
	} {
		for place, right := range places {
			if right == "" { // anything
				continue
			}
			for kind, some := range all {
				for _, one := range some {
					laid := make([]string, len(places))
					for n := range places {
						laid[n] = "push"
						if places[n] != "" {
							laid[n] = all[places[n]][0]
						}
					}
					laid[place] = one
					own := ins
					switch ins {
					case "call", "tail", "set": // what is handed in fits what the wrapper looks for
						own = "push, cast i ?, " + ins
						if !strings.Contains(one, "cast") {
							own = "push, " + ins
						}
					case "unless 1":
						own = fmt.Sprintf("unless %d", 1+len(rough.Read("i: " + one).Functions[0].Code))
					}
					wantKinds(t, own, laid, kind == right)
				}
			}
		}
	}
}

// The others take anything.
func TestAnyKind(t *testing.T) {
	for _, some := range kinds() {
		for _, one := range some {
			for _, ins := range []string{"let, push", "box", "push, pair", "list 1 i", "list 0 i, cons"} {
				wantKinds(t, ins, []string{one}, true)
			}
			wantKinds(t, "pair", []string{"push", one}, true)
			wantKinds(t, "list 2 i", []string{one, one}, true)
		}
	}
}

// What a cons takes for its rest is a list, asked when its step has been made, though package value makes a list of any rest.
func TestRestOfCons(t *testing.T) {
	want(t,
		"li: push, push, cons, ret", "ErrKind 0 2",
		"i: push, push, cons, part Head, ret", "ErrKind 0 2",
		"b: list 0 i, truth, cons", "ErrKind 0 2",
		"li: push, push, list 0 i, cons, push, cons, ret", "ErrKind 0 5",
		"i: fn 1, push, call, ret / i i: push, local, cons, ret", "ErrKind 1 2",
		// A wrapper of lists around what is none, and one of something else around a list.
		"li: push, push, cast li l?, cons, ret", "ErrKind 0 3",
		"li: push, list 0 i, cast ,ii ,i?, cons, ret", "ErrKind 0 3",
		// Lists of any length, wrapped or not; the wrapper is not the first value's.
		"l?: push, cast i ?, list 0 i, cast li l?, cons, ret", "cons num7 empty 2 0 0",
		"l?: push, cast i ?, push 1, list 1 i, cast li l?, cons, ret", "cons num7 cons num-1 empty 2 0 0",
		"li: push, push 1, list 0 i, cons, cons, ret", "cons num7 cons num-1 empty 3 0 0",
	)
	for fuel, want := range []string{"fuel 0 0 0", "fuel 1 0 0", "ErrKind 0 2", "ErrKind 0 2"} {
		if got := told(run.Loose(rough.Read("b: list 0 i, truth, cons"), fuel, 0)); got != want {
			t.Errorf("P21.2: a truth as the rest of a cons, fuel %d: %s, not %s", fuel, got, want)
		}
	}
}

// What is handed in to a function or set into a box through a wrapper that looks for a tag, but has none: by the place of the call or the set; and what comes out of it.
func TestKindsThroughWrappers(t *testing.T) {
	want(t,
		"?: fn 1, cast >ii >??, push, call, ret / i i: local, ret", "ErrKind 0 3",
		"?: fn 1, cast >ii >??, push, tail / i i: local, ret", "ErrKind 0 3",
		"?: push, box, cast xi x?, push, set, ret", "ErrKind 0 4",
		"i: push, box, cast x? xi, get, ret", "ErrKind 0 3",
		"i: push, text, pair, cast ,?t ,it, part First, ret", "ErrKind 0 4",
		"t: push, text, pair, cast ,i? ,it, part Second, ret", "ErrKind 0 4",
		"i: push, list 1 i, cast l? li, part Head, ret", "ErrKind 0 3",
		"i: push, cast ? i, ret", "ErrKind 0 1",
		"i: fn 1, cast ? >ii, ret / i i: local, ret", "ErrKind 0 1",
		// Untagged, and tagged twice.
		"?: push, cast i ?, cast i ?, ret", "num7 0 0 0",
		"i: push, cast i ?, cast i ?, cast ? i, op Neg, ret", "ErrKind 0 4",
		"i: push, cast i ?, cast i ?, cast ? i, cast ? i, op Neg, ret", "num-7 1 0 0",
	)
}

// At a ret: by the place of that ret, also where a coercion waits above the return that was taken up there.
func TestKindsAtRet(t *testing.T) {
	want(t,
		"i: push, pend ? i, ret", "ErrKind 0 2",
		"i: fn 1, push, call, ret / i i: local, push, let, pend ? i, ret", "ErrKind 1 4",
		"i: fn 1, push, pend ? i, call, ret / i i: local, ret", "ErrKind 0 4",
		"i: fn 1, cast >i? >ii, push, call, ret / i ?: local, ret", "ErrKind 1 1",
		"i: fn 1, cast >i? >ii, push, tail / i ?: local, ret", "ErrKind 1 1",
		"i: fn 1, cast >i? >ii, push, call, ret / i ?: fn 2, local, tail / i ?; i: truth, unless 2, local, ret", "ErrKind 2 3",
		// A value that is wrapped already by what does not meet the next one.
		"i: fn 1, cast >ii >i?, pend >ii >i?, ret / i i: local, ret", "ErrKind 0 3",
		"i: fn 1, push, call, ret / i i: push, list 1 i, cast li l?, pend li l?, ret", "ErrKind 1 4",
	)
	c := rough.Read("i: push, pend 0, ret")
	c.Casts = []api.Waits{{Co: []api.Co{{Op: api.CoFail, Head: 'i', Proj: 5, Label: 6, From: 'i', To: 'b'}}}}
	wantCode(t, c, 9, "ErrKind 0 2")
	c.Casts[0].Co[0].Proj = 0
	wantCode(t, c, 9, "blame6 0 0 1")
}
