package code

import (
	"strings"

	"culprit/api"
)

// Read answers the code whose lines these are, or the number of the first line that cannot stand there.
func Read(text string) (api.Code, api.Errno, int) {
	var c api.Code
	left, _ := lines(&c)(text)
	if left != "" { // it begins with that line: no line is read but as a whole
		return api.Code{}, api.ErrLine, 1 + strings.Count(text[:len(text)-len(left)], "\n")
	}
	return c, api.OK, 0
}

func lines(c *api.Code) word {
	return row(
		many(&c.Nums, func(n *int64) word { return line(exactly("num "), number(n)) }),
		many(&c.Texts, func(s *string) word { return line(exactly("text "), quoted(s)) }),
		many(&c.Types, func(t *string) word { return line(exactly("type "), quoted(t)) }),
		many(&c.Casts, cast),
		many(&c.Functions, function),
	)
}

func line(words ...word) word {
	return row(row(words...), exactly("\n"))
}

func cast(w *api.Waits) word {
	return line(exactly("cast "), quoted(&w.From), exactly(" "), quoted(&w.To), many(&w.Co, node))
}

func node(n *api.Co) word {
	point := exactly(".")
	return row(exactly(" "),
		number(&n.Op), point, number(&n.Proj), point, truth(&n.Inj), point, number(&n.Head), point,
		number(&n.Label), point, number(&n.From), point, number(&n.To))
}

func function(f *api.Function) word {
	head := line(exactly("fn "), many(&f.Env, closedOver), exactly(": "), quoted(&f.Param), exactly(" "), quoted(&f.Result))
	return row(head, many(&f.Code, instruction))
}

func closedOver(t *string) word {
	return row(quoted(t), exactly(" "))
}

func instruction(i *api.Ins) word {
	return line(exactly(" "), op(&i.Op), exactly(" "), number(&i.A), exactly(" "), number(&i.B))
}
