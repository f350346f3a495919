package tree

import (
	"strings"

	"culprit/api"
	"culprit/text"
	"culprit/types"
)

// mayBe tells whether n is a node of a source's tree. What its kind asks for is taken from it, piece by piece: what is left over must be nothing.
func mayBe(n api.Node) bool {
	fits := kidsFit(n)
	switch n.Kind {
	case api.Truth:
		fits = fits && n.N <= 1
		fallthrough
	case api.Num:
		fits = fits && n.N >= 0
		n.N = 0
	case api.Str:
		_, e := text.Quote(n.S)
		fits = fits && e == api.OK
		n.S = ""
	case api.As:
		fits = fits && isType(n.T)
		n.T = ""
	case api.Rec:
		// Behind its own name stands what a Fn has; without a blank nothing does, and that is no name.
		function, parameter, _ := strings.Cut(n.S, " ")
		fits = fits && text.IsName(function)
		n.S = parameter
		fallthrough
	case api.Fn:
		fits = fits && isAnnotation(n.U)
		n.U = ""
		fallthrough
	case api.Let:
		fits = fits && isAnnotation(n.T)
		n.T = ""
		fallthrough
	case api.Var:
		fits = fits && text.IsName(n.S)
		n.S = ""
	}
	return fits && n == api.Node{Kind: n.Kind, Kids: n.Kids, At: n.At}
}

// kidsFit tells whether a source's tree has nodes of this kind with as many kids.
func kidsFit(n api.Node) bool {
	switch n.Kind {
	case api.List:
		return n.Kids >= 0
	case api.Cast:
		return false // of core terms alone
	}
	kids, ok := Arity(n.Kind)
	return ok && n.Kids == kids
}

func isType(t string) bool {
	e, _ := types.Check(t)
	return e == api.OK
}

// isAnnotation: absent is one, too.
func isAnnotation(t string) bool {
	return t == "" || isType(t)
}
