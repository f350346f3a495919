package label_test

import (
	"fmt"
	"math"
	"strings"

	"culprit/api"
)

// What is here follows the chapter's words without the package that is tested.

// rules are the chapter's own words on them.
const rules = "1 body, 2 let, 3 called, 4 argument, 5 condition, 6 then, 7 else, 8 int, 9 text, 10 pair, 11 list, 12 box, 13 element, 14 first, 15 set, 16 as, 17 def, 18 import"

func wordOf(n int) string {
	for _, rule := range strings.Split(rules, ", ") {
		if number, word, _ := strings.Cut(rule, " "); number == fmt.Sprint(n) {
			return word
		}
	}
	return ""
}

// someBlames are those at the edges and near them.
func someBlames() []int64 {
	all := []int64{math.MinInt64, math.MinInt64 + 1, math.MinInt64 + 2, math.MaxInt64, math.MaxInt64 - 1}
	for _, p := range []int64{1 << 8, 1 << 16, 1 << 31, 1 << 32, 1 << 53, 1 << 62} {
		all = append(all, p-1, p, p+1, -p+1, -p, -p-1)
	}
	for p := int64(-30); p <= 30; p++ {
		all = append(all, p)
	}
	return all
}

func isNone(blame int64) bool { return blame == 0 || blame == math.MinInt64 }

// placeIn answers where the site of a blame's label stands, below 0 if nowhere.
func placeIn(sites []api.Site, blame int64) int {
	for i := range sites {
		if p := int64(i) + 1; blame == p || blame == -p {
			return i
		}
	}
	return -1
}

// modulesOf answers who a site's inside is, and who its context.
func modulesOf(s api.Site) (inside, context string) {
	if wordOf(s.Rule) == "import" {
		return s.Exporter, s.Module
	}
	return s.Module, s.Module
}

func namedOf(s api.Site, blame int64) string {
	inside, context := modulesOf(s)
	if blame > 0 {
		return inside
	}
	return context
}

func textOf(s api.Site, blame int64) string {
	word, side := wordOf(s.Rule), "context"
	if word == "" {
		word = fmt.Sprint(s.Rule)
	}
	if blame > 0 {
		side = "inside"
	}
	all := fmt.Sprintf("%s at %d:%d %s %s", namedOf(s, blame), s.At.Line, s.At.Col, word, side)
	if word == "import" {
		all += " from " + s.Exporter + " to " + s.Module
	}
	return all
}

// byBytes tells whether a text is ahead of another (below 0) or behind it (above 0).
func byBytes(a, b string) int {
	for i := 0; i < len(a) && i < len(b); i++ {
		if a[i] != b[i] {
			return int(a[i]) - int(b[i])
		}
	}
	return len(a) - len(b)
}

func isAhead(sites []api.Site, a, b int) bool {
	s, u := sites[a-1], sites[b-1]
	switch {
	case s.Module != u.Module:
		return byBytes(s.Module, u.Module) < 0
	case s.At.Line != u.At.Line:
		return s.At.Line < u.At.Line
	case s.At.Col != u.At.Col:
		return s.At.Col < u.At.Col
	case s.Rule != u.Rule:
		return s.Rule < u.Rule
	}
	return a < b
}

// sortedOf puts the labels in one by one, each behind all that it is not ahead of.
func sortedOf(sites []api.Site) []int {
	var all []int
	for label := 1; label <= len(sites); label++ {
		at := 0
		for at < len(all) && isAhead(sites, all[at], label) {
			at++
		}
		all = append(all, 0)
		copy(all[at+1:], all[at:])
		all[at] = label
	}
	return all
}

// dice deals numbers by a rule, so that each run of a test deals the same ones.
type dice uint64

func (d *dice) below(n int) int {
	*d = *d*6364136223846793005 + 1442695040888963407
	return int(uint64(*d) >> 33 % uint64(n))
}

// oddNames: empty ones, beginnings of each other, bytes that are no letters.
func oddNames() []string {
	return []string{"", "m", "ma", "main", "main2", "Main", "lib", "libs", " ", "a b", "\x00", "m\x00", "m\xff", "\xff", "\xff\xff", "\xc3\xa4", "z", "~", "at", "from lib to main"}
}

func oddNumbers() []int {
	return []int{0, 1, -1, 2, 9, 10, 11, 99, 100, -9, -10, math.MaxInt, math.MaxInt - 1, math.MinInt, math.MinInt + 1, math.MaxInt32, math.MinInt32}
}

// site deals one of few, so that many are alike.
func (d *dice) site(kinds int) api.Site {
	names, numbers := oddNames(), oddNumbers()
	s := api.Site{Module: names[d.below(min(kinds, len(names)))], Exporter: names[d.below(len(names))]}
	s.At = api.Place{Line: numbers[d.below(min(kinds, len(numbers)))], Col: numbers[d.below(min(kinds, len(numbers)))]}
	s.Rule = d.below(20)
	if d.below(4) == 0 {
		s.Rule = numbers[d.below(len(numbers))]
	}
	if d.below(4) == 0 {
		s.Rule = 18
	}
	return s
}

func (d *dice) sites(n, kinds int) []api.Site {
	all := make([]api.Site, n)
	for i := range all {
		all[i] = d.site(kinds)
	}
	return all
}

// exampleSites are those of the chapter.
func exampleSites() []api.Site {
	return []api.Site{
		{Module: "main", At: api.Place{Line: 3, Col: 14}, Rule: 4},
		{Module: "main", Exporter: "lib", At: api.Place{Line: 1, Col: 8}, Rule: 18},
		{Module: "lib", At: api.Place{Line: 9, Col: 1}, Rule: 16},
		{Module: "main", At: api.Place{Line: 3, Col: 14}, Rule: 0},
	}
}
