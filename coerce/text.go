package coerce

import (
	"strconv"
	"strings"

	"culprit/api"
)

// written answers the text of nodes, one behind the other.
func written(c []api.Co) string {
	var text strings.Builder
	for _, n := range c {
		if n.Proj != 0 {
			text.WriteString(strconv.FormatInt(n.Proj, 10) + "?")
		}
		if n.Inj {
			text.WriteByte('!')
		}
		switch n.Op {
		case api.CoAny:
			text.WriteByte('?')
		case api.CoFail:
			text.WriteString("#" + strconv.FormatInt(n.Label, 10))
			text.WriteByte(n.From)
			text.WriteByte(n.To)
		default:
			text.WriteByte(n.Head)
		}
	}
	return text.String()
}

// nodesOf answers the nodes that a text is written of, whatever they are to each other; none, if one of them may not stand in any coercion.
func nodesOf(s string) []api.Co {
	var all []api.Co
	for s != "" {
		n, rest, ok := cutNode(s)
		if !ok || !stands(n) {
			return nil
		}
		all, s = append(all, n), rest
	}
	return all
}

// cutNode cuts the first node off a text; whether it may stand in a coercion is not asked here.
func cutNode(s string) (n api.Co, rest string, ok bool) {
	if proj, behind, found := cutNumber(s); found {
		n.Proj = proj
		if s, ok = strings.CutPrefix(behind, "?"); !ok {
			return api.Co{}, "", false
		}
	}
	s, n.Inj = strings.CutPrefix(s, "!")
	if s == "" {
		return api.Co{}, "", false
	}
	letter, rest := s[0], s[1:]
	switch letter {
	case '?':
		n.Op = api.CoAny
	case '#':
		return cutFailure(n, rest)
	default:
		n.Op, n.Head = opOf(letter), letter
	}
	return n, rest, true
}

// cutFailure cuts off what stands behind a #.
func cutFailure(n api.Co, s string) (api.Co, string, bool) {
	label, s, found := cutNumber(s)
	if !found || len(s) < 2 {
		return api.Co{}, "", false
	}
	n.Op, n.Label, n.Head, n.From, n.To = api.CoFail, label, s[0], s[0], s[1]
	return n, s[2:], true
}

// cutNumber cuts a number off that is not 0, as numbers are told: no other way to write it is one.
func cutNumber(s string) (int64, string, bool) {
	digits := strings.TrimPrefix(s, "-")
	if digits == "" || digits[0] < '1' || digits[0] > '9' {
		return 0, "", false
	}
	rest := strings.TrimLeft(digits, "0123456789")
	n, err := strconv.ParseInt(s[:len(s)-len(rest)], 10, 64)
	return n, rest, err == nil
}
