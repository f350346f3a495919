package heap_test

import (
	"slices"
	"strconv"
	"strings"
	"testing"

	"culprit/api"
	"culprit/coerce"
	"culprit/heap"
	"culprit/value"
)

const heads = "ibt>,lx"

// answer: what Get answers, or another call that takes and makes values; of Set's the value is none.
type answer struct {
	v     value.Value
	label int64
	e     api.Errno
}

func of(v value.Value, label int64, e api.Errno) answer { return answer{v, label, e} }

func ofMake(v value.Value, e api.Errno) answer { return answer{v, 0, e} }

func ofSet(label int64, e api.Errno) answer { return answer{nil, label, e} }

var done = answer{}

func stuck() answer { return answer{e: api.ErrStuck} }

func blame(label int64) answer { return answer{label: label, e: api.ErrBlame} }

// told tells an answer in words: what is seen of its value, or why there is none.
func (a answer) told() string {
	switch {
	case a.e == api.ErrBlame && a.v == nil:
		return "blame " + strconv.FormatInt(a.label, 10)
	case a.e != api.OK && a.v == nil && a.label == 0:
		return a.e.Error()
	case a.e != api.OK || a.label != 0:
		return "an answer that may not be"
	case a.v == nil:
		return "none"
	}
	return told(value.Seen(a.v, 9))
}

// told writes an observation as words, one a node.
func told(all []api.Obs) string {
	words := map[int8]string{api.OFun: "fun", api.OBox: "box", api.OPair: "pair", api.OEmpty: "empty", api.OCons: "cons", api.OFuel: "fuel", api.ODeep: "deep", api.OTruth: "truth ", api.OBlame: "blame ", api.OFault: "fault "}
	var list []string
	for _, o := range all {
		word := words[o.Kind]
		switch o.Kind {
		case api.ONum, api.OTruth, api.OBlame, api.OFault:
			word += strconv.FormatInt(o.N, 10)
		case api.OText:
			word = strconv.Quote(o.S)
		}
		list = append(list, word)
	}
	return strings.Join(list, " ")
}

// want: an answer, its value (which may be held against another one) and all.
func want(t *testing.T, what string, got, want answer) {
	t.Helper()
	if got != want {
		t.Errorf("%s: %s (%v); want %s (%v)", what, got.told(), got, want.told(), want)
	}
}

// wantTold: an answer with a value of which that is seen; or another answer in words.
func wantTold(t *testing.T, what string, got answer, want string) {
	t.Helper()
	if got.told() != want {
		t.Errorf("%s: %s; want %s", what, got.told(), want)
	}
}

// wantTagged: an answer with a value under ?, with that head.
func wantTagged(t *testing.T, what string, got answer, head byte, want string) {
	t.Helper()
	if got.v == nil || tagOf(got.v) != head {
		t.Errorf("%s: %s is not tagged as %c", what, got.told(), head)
	}
	wantTold(t, what, got, want)
}

func wantSize(t *testing.T, what string, h *heap.Heap, want int) {
	t.Helper()
	if got := h.Size(); got != want {
		t.Errorf("%s: %d cells; want %d", what, got, want)
	}
}

func wantSame(t *testing.T, what string, h *heap.Heap, a, b value.Value, want bool) {
	t.Helper()
	for _, pair := range [][2]value.Value{{a, b}, {b, a}} {
		if is, e := h.Same(pair[0], pair[1]); is != want || e != api.OK {
			t.Errorf("%s: Same = %v, %d; want %v", what, is, e, want)
		}
	}
}

func wantNotSame(t *testing.T, what string, h *heap.Heap, a, b value.Value, want api.Errno) {
	t.Helper()
	for _, pair := range [][2]value.Value{{a, b}, {b, a}} {
		if is, e := h.Same(pair[0], pair[1]); is || e != want {
			t.Errorf("%s: Same = %v, %d; want false, %d", what, is, e, want)
		}
	}
}

// made answers a box that must be made.
func made(t *testing.T, h *heap.Heap, v value.Value) value.Value {
	t.Helper()
	b, e := h.Make(v)
	if b == nil || e != api.OK {
		t.Fatalf("P15.2: Make = %v, %d", b, e)
	}
	return b
}

// cast answers a value that must be cast without blame.
func cast(t *testing.T, v value.Value, from, to string, label int64) value.Value {
	t.Helper()
	got := of(value.Cast(v, from, to, label))
	if got.e != api.OK {
		t.Fatalf("Cast from %s to %s: %s", from, to, got.told())
	}
	return got.v
}

// casts answers a value, cast from the first type to the second, from that to the third, and so on, with the labels 1, 2, ..
func casts(t *testing.T, v value.Value, types ...string) value.Value {
	t.Helper()
	for i := range len(types) - 1 {
		v = cast(t, v, types[i], types[i+1], int64(i+1))
	}
	return v
}

// coerced answers a value that must be coerced, by one text after the other, without blame.
func coerced(t *testing.T, v value.Value, texts ...string) value.Value {
	t.Helper()
	for _, text := range texts {
		c, e := coerce.Parse(text)
		if e != api.OK {
			t.Fatalf("%s is the text of no coercion", text)
		}
		got := of(value.Coerce(v, c))
		if got.e != api.OK {
			t.Fatalf("Coerce by %s: %s", text, got.told())
		}
		v = got.v
	}
	return v
}

// chained answers a value coerced as casts answers it cast: by the casts' coercions, one by one.
func chained(t *testing.T, v value.Value, types ...string) value.Value {
	t.Helper()
	for i := range len(types) - 1 {
		c, _ := coerce.Of(types[i], types[i+1], int64(i+1))
		text, _ := coerce.Text(c)
		v = coerced(t, v, text)
	}
	return v
}

// merged answers a value coerced as casts answers it cast: by the casts' coercions as one.
func merged(t *testing.T, v value.Value, types ...string) value.Value {
	t.Helper()
	all, _ := coerce.Of(types[0], types[0], 1)
	for i := range len(types) - 1 {
		next, _ := coerce.Of(types[i], types[i+1], int64(i+1))
		var e api.Errno
		if all, e = coerce.Then(all, next); e != api.OK {
			t.Fatalf("%v do not meet: %d", types, e)
		}
	}
	text, _ := coerce.Text(all)
	return coerced(t, v, text)
}

// tag answers a value of a ground, under ?.
func tag(t *testing.T, v value.Value, ground string) value.Value {
	t.Helper()
	return cast(t, v, ground, "?", 99)
}

// tagOf answers the head with which a value is tagged; 0, if it is not.
func tagOf(v value.Value) byte {
	for _, head := range []byte(heads) {
		if _, _, e := value.Cast(v, "?", groundOf(head), 1); e == api.OK {
			return head
		}
	}
	return 0
}

func arity(head byte) int {
	return map[byte]int{'l': 1, 'x': 1, '>': 2, ',': 2}[head]
}

func groundOf(head byte) string {
	return string(rune(head)) + strings.Repeat("?", arity(head))
}

// apart cuts the first type off a text.
func apart(t string) (first, rest string) {
	end := 1
	for range arity(t[0]) {
		part, _ := apart(t[end:])
		end += len(part)
	}
	return t[:end], t[end:]
}

func partsOf(t string) []string {
	var parts []string
	for rest := t[1:]; rest != ""; {
		var part string
		part, rest = apart(rest)
		parts = append(parts, part)
	}
	return parts
}

// noHeaps: a nil one, and those that New did not make.
func noHeaps() map[string]*heap.Heap {
	var zero heap.Heap
	var in struct{ heap.Heap }
	return map[string]*heap.Heap{"a nil heap": nil, "a zero heap": &zero, "a new one of none": new(heap.Heap), "an empty literal": {}, "one in a struct": &in.Heap, "one of a list": &make([]heap.Heap, 3)[1]}
}

// noBoxes: one of each kind of value that has no cell that is asked for: what is no box, boxes under ?, boxes and others under wrappers of other heads; b is a box that wraps are laid around.
func noBoxes(t *testing.T, b value.Value) map[string]value.Value {
	all := map[string]value.Value{"none": nil}
	for _, k := range []struct {
		name, typ string
		v         value.Value
	}{
		{"a number", "i", value.Num(5)},
		{"a text", "t", value.Text("a")},
		{"a truth", "b", value.Truth(true)},
		{"a function", ">ii", value.Fun(7)},
		{"a pair", ",ii", value.Pair(value.Num(1), value.Num(2))},
		{"a pair with a box", ",xixi", value.Pair(b, b)},
		{"the empty list", "li", value.Nil()},
		{"a list", "li", value.Cons(value.Num(1), value.Nil())},
		{"a list with a box", "lxi", value.Cons(b, value.Nil())},
	} {
		ground := groundOf(k.typ[0])
		all[k.name] = k.v
		all[k.name+" under ?"] = tag(t, k.v, ground)
		all[k.name+" in a cast of boxes"] = cast(t, k.v, "xi", "x?", 1)
		all[k.name+" in a middle of boxes"] = coerced(t, k.v, "x!i-1?i")
		if ground != k.typ {
			all[k.name+" in a cast"] = cast(t, k.v, k.typ, ground, 1)
			all[k.name+" under ?, in a cast of boxes"] = cast(t, tag(t, k.v, ground), "xi", "x?", 1)
		}
	}
	all["a box under ?"] = tag(t, b, "x?")
	all["a box in a cast, under ?"] = tag(t, cast(t, b, "xi", "x?", 1), "x?")
	all["a box in a middle, under ?"] = tag(t, coerced(t, b, "x!i-1?i"), "x?")
	all["a box under ?, in a cast"] = cast(t, tag(t, b, "x?"), "xi", "x?", 1)
	for _, other := range []struct{ from, to, middle string }{{">ii", ">??", ">-5?i!i"}, {",ii", ",??", ",!i!i"}, {"li", "l?", "l!i"}} {
		head := string(other.from[0])
		byCast, byMiddle := cast(t, b, other.from, other.to, 1), coerced(t, b, other.middle)
		all["a box in a cast of the head "+head] = byCast
		all["a box in a middle of the head "+head] = byMiddle
		all["a box in a cast of the head "+head+", in a cast of boxes"] = cast(t, byCast, "xi", "x?", 1)
		all["a box in a middle of the head "+head+", in a cast of boxes"] = cast(t, byMiddle, "xi", "x?", 1)
		all["a box in a cast of boxes, in one of the head "+head] = cast(t, cast(t, b, "xi", "x?", 1), other.from, other.to, 1)
		all["a box in a middle of boxes, in a cast of the head "+head] = cast(t, coerced(t, b, "x!i-1?i"), other.from, other.to, 1)
		all["a box in a cast of boxes, in a middle of the head "+head] = coerced(t, cast(t, b, "xi", "x?", 1), other.middle)
	}
	return all
}

// strays: boxes whose cell is none of h's: another heap's, bare and wrapped; what is no heap's.
func strays(t *testing.T, h *heap.Heap) map[string]value.Value {
	other := heap.New()
	theirs := made(t, other, value.Num(1))
	cell, _ := value.Cell(theirs)
	n := 5
	all := map[string]value.Value{
		"another heap's":                  theirs,
		"another heap's, in a cast":       cast(t, theirs, "xi", "x?", 1),
		"another heap's, that blames":     casts(t, theirs, "xi", "x?", "xb"),
		"another heap's, in a middle":     coerced(t, theirs, "x!i-1?i"),
		"another heap's, in a failure":    coerced(t, theirs, "x#2ib#-1bi"),
		"a box of another heap's cell":    value.Box(cell),
		"a box of a box":                  value.Box(theirs),
		"a box of the heap":               value.Box(h),
		"a box of a number":               value.Box(1),
		"a box of a value":                value.Box(value.Num(1)),
		"a box of nil":                    value.Box(nil),
		"a box of a nil pointer":          value.Box((*int)(nil)),
		"a box of a pointer":              value.Box(&n),
		"a box of a list":                 value.Box([]int{1}),
		"a box of a map":                  value.Box(map[string]int{}),
		"a box of a function":             value.Box(func() {}),
		"a box of a channel":              value.Box(make(chan int)),
		"a box of a struct":               value.Box(struct{ f func() }{}),
		"a box of an array of lists":      value.Box([1][]int{{1}}),
		"a box of a number, in a cast":    cast(t, value.Box(1), "xi", "x?", 1),
		"a box of a number, in a middle":  coerced(t, value.Box(1), "x!i-1?i"),
		"a box of a number, in a failure": coerced(t, value.Box(1), "x#2ib#-1bi"),
	}
	return all
}

func sortedNames(all map[string]value.Value) []string {
	var names []string
	for name := range all {
		names = append(names, name)
	}
	slices.Sort(names)
	return names
}
