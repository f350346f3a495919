package relate_test

import (
	"strings"

	"culprit/api"
)

const letters = "ibt?>,lx"

// form is a type taken apart, so that the chapter's words can be followed here without the packages that are tested.
type form struct {
	head  byte
	parts []form
}

func arity(head byte) int {
	return map[byte]int{'l': 1, 'x': 1, '>': 2, ',': 2}[head]
}

// formOf takes apart a text that must be a type.
func formOf(t string) form {
	f, rest := formAt(t)
	if rest != "" {
		panic("no type: " + t)
	}
	return f
}

func formAt(t string) (form, string) {
	f, rest := form{head: t[0]}, t[1:]
	for range arity(f.head) {
		var part form
		part, rest = formAt(rest)
		f.parts = append(f.parts, part)
	}
	return f, rest
}

func (f form) text() string {
	var b strings.Builder
	b.WriteByte(f.head)
	for _, part := range f.parts {
		b.WriteString(part.text())
	}
	return b.String()
}

// eachPart asks of the parts of two forms with one head, one by one.
func eachPart(f, g form, holds func(f, g form) bool) bool {
	all := f.head == g.head
	for i := 0; all && i < len(f.parts); i++ {
		all = holds(f.parts[i], g.parts[i])
	}
	return all
}

func consistent(f, g form) bool {
	return f.head == '?' || g.head == '?' || eachPart(f, g, consistent)
}

func precise(f, g form) bool {
	return g.head == '?' || eachPart(f, g, precise)
}

// meet of consistent forms, however large it gets.
func meet(f, g form) form {
	switch {
	case f.head == '?':
		return g
	case g.head == '?':
		return f
	}
	return both(f, g, meet)
}

func join(f, g form) form {
	if f.head != g.head || f.head == '?' || g.head == '?' {
		return form{head: '?'}
	}
	return both(f, g, join)
}

func both(f, g form, of func(f, g form) form) form {
	h := form{head: f.head}
	for i := range f.parts {
		h.parts = append(h.parts, of(f.parts[i], g.parts[i]))
	}
	return h
}

// looser goes through the letters of a type: each is a place.
func looser(t string) []string {
	var all []string
	for at := range len(t) {
		f, rest := formAt(t[at:])
		blank := f.head != '?'
		for _, part := range f.parts {
			blank = blank && part.head == '?'
		}
		if blank {
			all = append(all, t[:at]+"?"+rest)
		}
	}
	return all
}

// allTypes answers all types of at most long letters, the short ones first.
func allTypes(long int) []string {
	bySize := make([][]string, long+1)
	var all []string
	for size := 1; size <= long; size++ {
		for i := range len(letters) {
			for _, t := range ofSize(letters[i], size, bySize) {
				bySize[size] = append(bySize[size], t)
				all = append(all, t)
			}
		}
	}
	return all
}

func ofSize(head byte, size int, bySize [][]string) []string {
	h := string([]byte{head})
	var all []string
	switch arity(head) {
	case 0:
		if size == 1 {
			return []string{h}
		}
	case 1:
		for _, part := range bySize[size-1] {
			all = append(all, h+part)
		}
	case 2:
		for left := 1; left < size-1; left++ {
			for _, from := range bySize[left] {
				for _, to := range bySize[size-1-left] {
					all = append(all, h+from+to)
				}
			}
		}
	}
	return all
}

// noTypes: of each way not to be a type one or some.
func noTypes() []string {
	return []string{"", "z", "ii", "i,", ">", ">i", ">iz", "l", "xx", "li?", ",i", ",iii", " i", "i ", "I", "int", "??", "?i", "?\x00", "\x00", "\xff", "é", "i\x00",
		strings.Repeat("l", 64), strings.Repeat("i", 64), strings.Repeat("l", 64) + "i", strings.Repeat("l", 64) + "?", strings.Repeat("?", 65), strings.Repeat(",i", 32) + "i", strings.Repeat("x", 1<<16)}
}

// dice deals numbers by a rule, so that each run of a test deals the same ones.
type dice uint64

func (d *dice) below(n int) int {
	*d = *d*6364136223846793005 + 1442695040888963407
	return int(uint64(*d) >> 33 % uint64(n))
}

// typeOf deals a type of at most room letters, room being at least 1.
func (d *dice) typeOf(room int) string {
	head := letters[d.below(len(letters))]
	if room >= 8 && d.below(4) > 0 {
		head = letters[4+d.below(4)] // else most types would be one letter
	}
	switch n := arity(head); {
	case n == 0 || n >= room:
		leaf := d.below(4)
		return letters[leaf : leaf+1]
	case n == 1:
		return string([]byte{head}) + d.typeOf(room-1)
	default:
		first := d.typeOf(1 + d.below(room-2))
		return string([]byte{head}) + first + d.typeOf(room-1-len(first))
	}
}

// blurred puts ? for some of the places of a type, the more the less often is.
func (d *dice) blurred(t string, often int) string {
	var blur func(f form) form
	blur = func(f form) form {
		if d.below(often) == 0 {
			return form{head: '?'}
		}
		g := form{head: f.head}
		for _, part := range f.parts {
			g.parts = append(g.parts, blur(part))
		}
		return g
	}
	return blur(formOf(t)).text()
}

// fitting blurs what may be larger than a type till it is one.
func (d *dice) fitting(t string) string {
	for {
		if s := d.blurred(t, 3+d.below(20)); len(s) <= api.MaxType {
			return s
		}
	}
}

// related deals two types that have much in common: both blurred from one, which may be too large, and now and then with a place of one put otherwise.
func (d *dice) related() (string, string) {
	base := d.typeOf(1 + d.below(2*api.MaxType))
	s, t := d.fitting(base), d.fitting(base)
	if d.below(3) > 0 {
		return s, t
	}
	at := d.below(len(t))
	_, rest := formAt(t[at:])
	if room := api.MaxType - at - len(rest); room > 0 {
		t = t[:at] + d.typeOf(min(room, 5)) + rest
	}
	return s, t
}
