package safe_test

import (
	"strings"

	"culprit/api"
)

const letters = "ibt?>,lx"

func arity(head byte) int {
	return map[byte]int{'l': 1, 'x': 1, '>': 2, ',': 2}[head]
}

// apart cuts the first type off a text, without the packages that are tested.
func apart(t string) (first, rest string) {
	end := 1
	for range arity(t[0]) {
		part, _ := apart(t[end:])
		end += len(part)
	}
	return t[:end], t[end:]
}

func partsOf(t string) []string {
	var parts []string
	for rest := t[1:]; rest != ""; {
		var part string
		part, rest = apart(rest)
		parts = append(parts, part)
	}
	return parts
}

func groundOf(t string) string {
	return t[:1] + strings.Repeat("?", arity(t[0]))
}

// table follows the chapter's table row by row; it keeps what it found, since boxes within boxes ask the same over and over.
type table map[asked]bool

type asked struct {
	s, t  string
	minus bool
}

func (k table) safe(s, t string, minus bool) bool {
	q := asked{s, t, minus}
	if found, ok := k[q]; ok {
		return found
	}
	if minus {
		k[q] = k.minus(s, t)
	} else {
		k[q] = k.plus(s, t)
	}
	return k[q]
}

func (k table) plus(s, t string) bool {
	if t == "?" {
		return true
	}
	if s == "?" || s[0] != t[0] {
		return false
	}
	a, b := partsOf(s), partsOf(t)
	switch s[0] {
	case '>':
		return k.safe(b[0], a[0], true) && k.safe(a[1], b[1], false)
	case ',':
		return k.safe(a[0], b[0], false) && k.safe(a[1], b[1], false)
	case 'l':
		return k.safe(a[0], b[0], false)
	case 'x':
		return k.safe(a[0], b[0], false) && k.safe(b[0], a[0], true)
	}
	return true
}

func (k table) minus(s, t string) bool {
	if t == "?" {
		return s == "?" || k.safe(s, groundOf(s), true)
	}
	if s == "?" || s[0] != t[0] {
		return true
	}
	a, b := partsOf(s), partsOf(t)
	switch s[0] {
	case '>':
		return k.safe(b[0], a[0], false) && k.safe(a[1], b[1], true)
	case ',':
		return k.safe(a[0], b[0], true) && k.safe(a[1], b[1], true)
	case 'l':
		return k.safe(a[0], b[0], true)
	case 'x':
		return k.safe(a[0], b[0], true) && k.safe(b[0], a[0], false)
	}
	return true
}

// allTypes answers all types of at most long letters, the short ones first.
func allTypes(long int) []string {
	bySize := make([][]string, long+1)
	var all []string
	for size := 1; size <= long; size++ {
		for i := range len(letters) {
			bySize[size] = append(bySize[size], ofSize(letters[i], size, bySize)...)
		}
		all = append(all, bySize[size]...)
	}
	return all
}

func ofSize(head byte, size int, bySize [][]string) []string {
	h := string([]byte{head})
	var all []string
	switch arity(head) {
	case 0:
		if size == 1 {
			return []string{h}
		}
	case 1:
		for _, part := range bySize[size-1] {
			all = append(all, h+part)
		}
	case 2:
		for left := 1; left < size-1; left++ {
			for _, from := range bySize[left] {
				for _, to := range bySize[size-1-left] {
					all = append(all, h+from+to)
				}
			}
		}
	}
	return all
}

// noTypes: of each way not to be a type one or some.
func noTypes() []string {
	return []string{"", "z", "ii", "i,", ">", ">i", ">iz", "l", "xx", "li?", ",i", ",iii", " i", "i ", "I", "int", "??", "?i", "?\x00", "\x00", "\xff", "é", "i\x00",
		strings.Repeat("l", 64), strings.Repeat("i", 64), strings.Repeat("l", 64) + "i", strings.Repeat("x", 64) + "?", strings.Repeat("?", 65), strings.Repeat(",i", 32) + "i", strings.Repeat("x", 1<<16)}
}

// dice deals numbers by a rule, so that each run of a test deals the same ones.
type dice uint64

func (d *dice) below(n int) int {
	*d = *d*6364136223846793005 + 1442695040888963407
	return int(uint64(*d) >> 33 % uint64(n))
}

// typeOf deals a type of at most room letters, room being at least 1.
func (d *dice) typeOf(room int) string {
	head := letters[d.below(len(letters))]
	if room >= 8 && d.below(4) > 0 {
		head = letters[4+d.below(4)] // else most types would be one letter
	}
	switch n := arity(head); {
	case n == 0 || n >= room:
		leaf := d.below(4)
		return letters[leaf : leaf+1]
	case n == 1:
		return string([]byte{head}) + d.typeOf(room-1)
	default:
		first := d.typeOf(1 + d.below(room-2))
		return string([]byte{head}) + first + d.typeOf(room-1-len(first))
	}
}

// blurred puts ? for some of the places of a type, the more the less often is.
func (d *dice) blurred(t string, often int) string {
	if d.below(often) == 0 {
		return "?"
	}
	whole := t[:1]
	for _, part := range partsOf(t) {
		whole += d.blurred(part, often)
	}
	return whole
}

// related deals two types that have much in common: both blurred from one, and now and then with a place of one put otherwise.
func (d *dice) related() (string, string) {
	base := d.typeOf(1 + d.below(api.MaxType))
	s, t := d.blurred(base, 2+d.below(40)), d.blurred(base, 2+d.below(40))
	switch d.below(6) {
	case 0:
		return base, t
	case 1:
		return s, base
	case 2, 3:
		at := d.below(len(t))
		_, rest := apart(t[at:])
		t = t[:at] + d.typeOf(min(api.MaxType-at-len(rest), 5)) + rest
	}
	return s, t
}
