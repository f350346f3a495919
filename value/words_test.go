package value_test

import (
	"math"
	"slices"
	"strconv"
	"strings"
	"testing"

	"culprit/api"
	"culprit/coerce"
	"culprit/value"
)

const (
	letters = "ibt?>,lx"
	heads   = "ibt>,lx"
)

// answer: what a call that takes and makes values answers.
type answer struct {
	v     value.Value
	label int64
	e     api.Errno
}

func of(v value.Value, label int64, e api.Errno) answer { return answer{v, label, e} }

func (a answer) told() string {
	switch {
	case a.e == api.ErrBlame:
		return "blame " + strconv.FormatInt(a.label, 10)
	case a.e != api.OK:
		return a.e.Error()
	}
	return told(value.Seen(a.v, 9))
}

// told writes an observation as words, one a node; a field that has no meaning in its node is told too, if it is not zero.
func told(all []api.Obs) string {
	var words []string
	for _, o := range all {
		n, s := strconv.FormatInt(o.N, 10), strconv.Quote(o.S)
		switch o.Kind {
		case api.ONum:
			words, o.N = append(words, n), 0
		case api.OText:
			words, o.S = append(words, s), ""
		case api.OTruth:
			words, o.N = append(words, "truth:"+n), 0
		case api.OBlame:
			words, o.N = append(words, "blame:"+n), 0
		case api.OFault:
			words, o.N = append(words, "fault:"+n), 0
		default:
			words = append(words, map[int8]string{api.OFun: "fun", api.OBox: "box", api.OPair: "pair", api.OEmpty: "empty", api.OCons: "cons", api.OFuel: "fuel", api.ODeep: "deep"}[o.Kind])
		}
		if o.N != 0 || o.S != "" {
			words = append(words, "with", n, s)
		}
	}
	return strings.Join(words, " ")
}

// wantValue: a value, no label, no error; what is seen of it.
func wantValue(t *testing.T, what string, got answer, seen string) {
	t.Helper()
	if got.v == nil || got.label != 0 || got.e != api.OK {
		t.Errorf("%s = %v, %d, %d; want a value", what, got.v, got.label, got.e)
	} else if s := told(value.Seen(got.v, 9)); s != seen {
		t.Errorf("%s: seen is %q; want %q", what, s, seen)
	}
}

func wantBlame(t *testing.T, what string, got answer, label int64) {
	t.Helper()
	if got != (answer{nil, label, api.ErrBlame}) {
		t.Errorf("%s = %v, %d, %d; want blame of %d", what, got.v, got.label, got.e, label)
	}
}

func wantError(t *testing.T, what string, got answer, e api.Errno) {
	t.Helper()
	if got != (answer{nil, 0, e}) {
		t.Errorf("%s = %v, %d, %d; want %d", what, got.v, got.label, got.e, e)
	}
}

func wantStuck(t *testing.T, what string, got answer) {
	t.Helper()
	wantError(t, what, got, api.ErrStuck)
}

// cast answers a value that must be cast without blame.
func cast(t *testing.T, v value.Value, from, to string, label int64) value.Value {
	t.Helper()
	got := of(value.Cast(v, from, to, label))
	if got.v == nil || got.label != 0 || got.e != api.OK {
		t.Fatalf("P14.2: Cast from %s to %s = %v, %d, %d", from, to, got.v, got.label, got.e)
	}
	return got.v
}

// casts answers a value, cast from the first type to the second, from that to the third, and so on, with the labels 1, 2, ..
func casts(t *testing.T, v value.Value, types ...string) value.Value {
	t.Helper()
	for i := range len(types) - 1 {
		v = cast(t, v, types[i], types[i+1], int64(i+1))
	}
	return v
}

// coerced answers a value that must be coerced, by one text after the other, without blame.
func coerced(t *testing.T, v value.Value, texts ...string) value.Value {
	t.Helper()
	for _, text := range texts {
		got := of(value.Coerce(v, co(t, text)))
		if got.v == nil || got.label != 0 || got.e != api.OK {
			t.Fatalf("P14.3: Coerce by %s = %v, %d, %d", text, got.v, got.label, got.e)
		}
		v = got.v
	}
	return v
}

// co answers the coercion of a text.
func co(t *testing.T, text string) []api.Co {
	t.Helper()
	c, e := coerce.Parse(text)
	if e != api.OK {
		t.Fatalf("%s is the text of no coercion", text)
	}
	return c
}

func coTold(c []api.Co) string {
	s, e := coerce.Text(c)
	if e != api.OK {
		return "what may not be"
	}
	return s
}

// tag answers a value of a ground, under ?.
func tag(t *testing.T, v value.Value, ground string) value.Value {
	t.Helper()
	return cast(t, v, ground, "?", 99)
}

func arity(head byte) int {
	return map[byte]int{'l': 1, 'x': 1, '>': 2, ',': 2}[head]
}

// apart cuts the first type off a text.
func apart(t string) (first, rest string) {
	end := 1
	for range arity(t[0]) {
		part, _ := apart(t[end:])
		end += len(part)
	}
	return t[:end], t[end:]
}

func partsOf(t string) []string {
	var parts []string
	for rest := t[1:]; rest != ""; {
		var part string
		part, rest = apart(rest)
		parts = append(parts, part)
	}
	return parts
}

func groundOf(head byte) string {
	return string(rune(head)) + strings.Repeat("?", arity(head))
}

func consistent(s, t string) bool {
	if s == "?" || t == "?" {
		return true
	}
	if s[0] != t[0] {
		return false
	}
	others := partsOf(t)
	for i, part := range partsOf(s) {
		if !consistent(part, others[i]) {
			return false
		}
	}
	return true
}

// allTypes answers all types of at most long letters, the short ones first.
func allTypes(long int) []string {
	bySize := make([][]string, long+1)
	var all []string
	for size := 1; size <= long; size++ {
		for _, head := range strings.Split(letters, "") {
			switch n := arity(head[0]); {
			case n == 0 && size == 1:
				bySize[size] = append(bySize[size], head)
			case n == 1:
				for _, part := range bySize[size-1] {
					bySize[size] = append(bySize[size], head+part)
				}
			case n == 2:
				for left := 1; left < size-1; left++ {
					for _, from := range bySize[left] {
						for _, to := range bySize[size-1-left] {
							bySize[size] = append(bySize[size], head+from+to)
						}
					}
				}
			}
		}
		all = append(all, bySize[size]...)
	}
	return all
}

// noTypes: of each way not to be a type one or some.
func noTypes() []string {
	return []string{"", "z", "ii", ">", ">i", ">iz", "l", "li?", ",iii", " i", "i ", "I", "int", "??", "?\x00", "\x00", "\xff", strings.Repeat("l", 64), strings.Repeat("l", 64) + "i", strings.Repeat("?", 65), strings.Repeat("x", 1<<16)}
}

// someLabels: those at the edges, and some between.
func someLabels() []int64 {
	return []int64{1, -1, 2, -2, 5, -5, 99, -1000, math.MaxInt32 - 1, 1 - math.MaxInt32, math.MaxInt32, -math.MaxInt32}
}

func noLabels() []int64 {
	return []int64{0, 1 << 31, -1 << 31, 1<<31 + 1, -1<<31 - 1, 1 << 32, 1<<32 + 1, -1<<32 - 1, math.MaxInt64, math.MinInt64, math.MinInt64 + 1}
}

// noCoercions: of each way not to be one that may be one or some.
func noCoercions() [][]api.Co {
	return [][]api.Co{
		nil, {}, {{}}, {{Op: 8}}, {{Op: -1, Head: 'i'}},
		{{Op: api.CoAny, Head: 'i'}}, {{Op: api.CoAny, Proj: 1}}, {{Op: api.CoAny, Inj: true}}, {{Op: api.CoAny}, {Op: api.CoAny}},
		{{Op: api.CoBase}}, {{Op: api.CoBase, Head: '?'}}, {{Op: api.CoBase, Head: 'l'}}, {{Op: api.CoBase, Head: 'i', Proj: 1 << 31}}, {{Op: api.CoBase, Head: 'i', Label: 1}},
		{{Op: api.CoList, Head: 'l'}}, {{Op: api.CoList, Head: 'x'}, {Op: api.CoAny}}, {{Op: api.CoFun, Head: '>'}, {Op: api.CoAny}},
		{{Op: api.CoList, Head: 'l', Inj: true}, {Op: api.CoBase, Head: 'i'}}, {{Op: api.CoList, Head: 'l', Proj: 1}, {Op: api.CoBase, Head: 'i'}},
		{{Op: api.CoPair, Head: ','}, {Op: api.CoAny}, {Op: api.CoAny}, {Op: api.CoAny}},
		{{Op: api.CoFail, Head: 'i', From: 'i', To: 'i', Label: 1}}, {{Op: api.CoFail, Head: 'i', From: 'i', To: 'b'}}, {{Op: api.CoFail, Head: 'i', From: 'b', To: 'i', Label: 1}},
		append(slices.Repeat([]api.Co{{Op: api.CoList, Head: 'l'}}, api.MaxNest), api.Co{Op: api.CoAny}),
	}
}

// oneOfEach: a value of each kind that is neither tagged nor wrapped, with its type.
func oneOfEach() []struct {
	name, t string
	v       value.Value
} {
	return []struct {
		name, t string
		v       value.Value
	}{
		{"a number", "i", value.Num(5)},
		{"a text", "t", value.Text("a")},
		{"a truth", "b", value.Truth(true)},
		{"a function", ">ii", value.Fun("code")},
		{"a box", "xi", value.Box("cell")},
		{"a pair", ",ii", value.Pair(value.Num(1), value.Num(2))},
		{"the empty list", "li", value.Nil()},
		{"a list", "li", value.Cons(value.Num(1), value.Nil())},
	}
}

// loose answers a type with ? for its parts, of a base itself.
func loose(t string) string { return groundOf(t[0]) }

// kinds answers a value of each kind: those of oneOfEach, each of them tagged, and each that can be wrapped with a cast, with a middle, with both, and tagged then.
func kinds(t *testing.T) map[string]value.Value {
	all := map[string]value.Value{}
	for _, k := range oneOfEach() {
		all[k.name] = k.v
		all[k.name+", tagged"] = tag(t, k.v, loose(k.t))
		if arity(k.t[0]) == 0 {
			continue
		}
		middle, _ := coerce.Of(k.t, loose(k.t), 7)
		byCast := cast(t, k.v, k.t, loose(k.t), 8)
		byMiddle, _, _ := value.Coerce(k.v, middle)
		both, _, _ := value.Coerce(byCast, middle)
		all[k.name+" in a cast"] = byCast
		all[k.name+" in a middle"] = byMiddle
		all[k.name+" in a cast in a middle"] = both
		all[k.name+" in a middle in a cast"] = cast(t, byMiddle, loose(k.t), k.t, 9)
		all[k.name+" in a cast, tagged"] = tag(t, byCast, loose(k.t))
		all[k.name+", tagged, in a cast"] = cast(t, tag(t, k.v, loose(k.t)), k.t, loose(k.t), 6)
	}
	return all
}
