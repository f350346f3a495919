package sample

import (
	"strconv"
	"strings"

	"culprit/api"
)

// TextOf answers a term of a text of so many bytes, and its steps.
func TextOf(bytes int) (l []api.Node, steps int) {
	if bytes <= api.MaxText {
		return Str(strings.Repeat("q", bytes)), 0
	}
	left, first := TextOf(bytes / 2)
	right, second := TextOf(bytes - bytes/2)
	return Of(api.Join, left, right), first + second + 1
}

// Texts answers terms that join texts up to the limit, and beyond it; and texts of any bytes.
func Texts() (all []Known) {
	for _, s := range []string{" ", "\x00\xff\"\\", strings.Repeat("z", api.MaxText), "é"} {
		all = append(all, Known{Str(s), 1, Told([]api.Obs{{Kind: api.OText, S: s}}), 0}, Known{Of(api.Size, Str(s)), 1, "num" + strconv.Itoa(len(s)), 1})
	}
	for _, c := range [][2]int{{0, 4096}, {4096, 0}, {1, 4095}, {4095, 1}, {2048, 2048}, {2047, 2048}, {1, 4096}, {4096, 1}, {2048, 2049}, {4096, 4096}} {
		left, first := TextOf(c[0])
		right, second := TextOf(c[1])
		join, bytes, steps := Of(api.Join, left, right), c[0]+c[1], first+second+1
		if bytes > api.MaxBytes {
			all = append(all, Known{join, 1, "fault35", steps}, Known{Of(api.Size, join), 1, "fault35", steps})
			continue
		}
		seen := Told([]api.Obs{{Kind: api.OText, S: strings.Repeat("q", bytes)}})
		all = append(all, Known{join, 1, seen, steps}, Known{Of(api.Size, join), 1, "num" + strconv.Itoa(bytes), steps + 1})
	}
	return all
}

// Depths answers terms with the depth down to which they are seen. A blame, a fault are seen at any.
func Depths() (all []Known) {
	nested := Term("Pair(Num 1, List ,ii (Pair(Num 2, Num 3)))")
	for depth, seen := range []string{"deep", "pair deep deep", "pair num1 cons deep deep", "pair num1 cons pair deep deep empty", "pair num1 cons pair num2 num3 empty", "pair num1 cons pair num2 num3 empty"} {
		all = append(all, Known{nested, depth, seen, 3})
	}
	all = append(all, Known{nested, api.MaxObs, "pair num1 cons pair num2 num3 empty", 3})
	for _, depth := range []int{0, 1, api.MaxObs} {
		all = append(all, Known{Term("Head(List i ())"), depth, "fault34", 2}, Known{Term("Cast ? b 3 (Cast i ? 1 (Num 1))"), depth, "blame3", 0})
	}
	for _, text := range []string{"Num 1", "Str a", "Truth 1", "Fn i i (Var 0)", "Cast i ? 1 (Num 1)"} {
		all = append(all, Known{Term(text), 0, "deep", 0})
	}
	// A part's blame is seen where the part itself would be too deep, as chapter 14 has it.
	return append(all, Known{Term("Cast ,?? ,ib 3 (Pair(Cast i ? 1 (Num 1), Cast i ? 2 (Num 2)))"), 1, "pair deep blame3", 1})
}
