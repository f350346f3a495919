package emit_test

import (
	"slices"
	"strings"
	"testing"

	"culprit/api"
	"culprit/code"
	"culprit/coerce"
	"culprit/core"
	"culprit/emit"
	"culprit/sample"
)

// part is a node of a term as a tree: what chapter 19 says of a node is asked of it by going up to the nodes around it.
type part struct {
	api.Node
	up     *part
	number int // which of that one's kids it is
	kids   []*part
	typed  string // once it has been asked
	fn     int    // of a Fn, a Rec
}

// grown answers the tree of the list's first term, and what stands behind it.
func grown(l []api.Node, up *part, number int) (*part, []api.Node) {
	p := &part{Node: l[0], up: up, number: number}
	l = l[1:]
	for i := range p.Kids {
		var kid *part
		kid, l = grown(l, p, i)
		p.kids = append(p.kids, kid)
	}
	return p, l
}

func (p *part) is(kinds ...int8) bool { return slices.Contains(kinds, p.Kind) }

// binds tells the types that the node above has bound for this kid of it, the nearest one first.
func (p *part) bound() []string {
	switch {
	case p.up.is(api.Fn):
		return []string{p.up.T}
	case p.up.is(api.Rec):
		return []string{p.up.T, ">" + p.up.T + p.up.U}
	case p.up.is(api.Let) && p.number == 1:
		return []string{p.up.kids[0].of()}
	}
	return nil
}

func (p *part) row() (all []string) {
	for ; p.up != nil; p = p.up {
		all = append(all, p.bound()...)
	}
	return all
}

// inTail tells whether it is in the tail.
func (p *part) inTail() bool {
	switch {
	case p.up == nil || p.up.is(api.Fn, api.Rec):
		return true
	case p.up.is(api.Let):
		return p.number == 1 && p.up.inTail()
	case p.up.is(api.If):
		return p.number > 0 && p.up.inTail()
	}
	return p.up.is(api.Cast) && p.up.inTail()
}

// waiting answers the casts that wait at it, the innermost first.
func (p *part) waiting() (all []*part) {
	for p = p.up; p != nil && !p.is(api.Fn, api.Rec); p = p.up {
		if p.is(api.Cast) {
			all = append(all, p)
		}
	}
	return all
}

// function answers the number of the function that it is in.
func (p *part) function() int {
	for p = p.up; p != nil; p = p.up {
		if p.is(api.Fn, api.Rec) {
			return p.fn
		}
	}
	return 0
}

func (p *part) of() string {
	if p.typed == "" {
		p.typed = p.ask()
	}
	return p.typed
}

func (p *part) ask() string {
	kid := func(n int) string { return p.kids[n].of() }
	cut := func(t string, n int) string {
		one, other := sample.Cut(t[1:])
		return []string{one, other}[n]
	}
	switch p.Kind {
	case api.Str, api.Join:
		return "t"
	case api.Truth, api.Eq, api.Less, api.Empty:
		return "b"
	case api.Var:
		return p.row()[p.N]
	case api.Fn, api.Rec:
		return ">" + p.T + p.U
	case api.Call:
		return cut(kid(0), 1)
	case api.Let, api.If, api.Cons, api.Set:
		return kid(1)
	case api.Pair:
		return "," + kid(0) + kid(1)
	case api.First:
		return cut(kid(0), 0)
	case api.Second:
		return cut(kid(0), 1)
	case api.List:
		return "l" + p.T
	case api.Head, api.Get:
		return kid(0)[1:]
	case api.Tail:
		return kid(0)
	case api.Box:
		return "x" + kid(0)
	case api.Cast:
		return p.U
	}
	return "i"
}

// model lays code by the words of chapter 19, each part asking by itself where it stands.
type model struct {
	c api.Code
}

// given answers the place of the first thing of a list of which same holds; the list has one more if there is none.
func given[T any](list *[]T, one T, same func(T) bool) int {
	at := slices.IndexFunc(*list, same)
	if at < 0 {
		at = len(*list)
		*list = append(*list, one)
	}
	return at
}

func (m *model) lay(p *part, op string, numbers ...int) int {
	i := api.Ins{Op: int8(slices.Index(ops, op))}
	for n, number := range numbers {
		*[]*int{&i.A, &i.B}[n] = number
	}
	f := &m.c.Functions[p.function()]
	f.Code = append(f.Code, i)
	return len(f.Code) - 1
}

// ops: the names of instructions by their numbers, as chapter 18 has them.
var ops = strings.Split(" push text truth local fn rec call tail ret jump unless let end op pair part list cons box get set cast pend", " ")

func (m *model) layCast(p *part, op string, cast *part) {
	co, _ := coerce.Of(cast.T, cast.U, cast.N)
	m.lay(p, op, given(&m.c.Casts, api.Waits{From: cast.T, To: cast.U, Co: co}, func(w api.Waits) bool {
		return w.From == cast.T && w.To == cast.U && slices.Equal(w.Co, co)
	}))
}

// leads has the jump at a place lead to what is laid next.
func (m *model) leads(p *part, at int) {
	f := &m.c.Functions[p.function()]
	f.Code[at].A = len(f.Code)
}

// visit lays all of a part.
func (m *model) visit(p *part) {
	switch {
	case p.is(api.If):
		m.choice(p)
	case p.is(api.Let):
		m.visit(p.kids[0])
		m.lay(p, "let")
		m.visit(p.kids[1])
		if !p.inTail() {
			m.lay(p, "end")
		}
	case p.is(api.Cast) && p.inTail():
		m.visit(p.kids[0])
	case p.is(api.Call) && p.inTail():
		m.visit(p.kids[0])
		m.visit(p.kids[1])
		all := p.waiting()
		slices.Reverse(all)
		for _, cast := range all {
			m.layCast(p, "pend", cast)
		}
		m.lay(p, "tail")
	default:
		m.plain(p)
		if p.inTail() {
			for _, cast := range p.waiting() {
				m.layCast(p, "cast", cast)
			}
			m.lay(p, "ret")
		}
	}
}

func (m *model) choice(p *part) {
	m.visit(p.kids[0])
	unless := m.lay(p, "unless")
	m.visit(p.kids[1])
	if p.inTail() {
		m.leads(p, unless)
		m.visit(p.kids[2])
		return
	}
	jump := m.lay(p, "jump")
	m.leads(p, unless)
	m.visit(p.kids[2])
	m.leads(p, jump)
}

func (m *model) function(p *part, op string, own ...string) {
	p.fn = len(m.c.Functions)
	m.c.Functions = append(m.c.Functions, api.Function{Env: append(own, p.row()...), Param: p.T, Result: p.U})
	m.lay(p, op, p.fn)
	m.visit(p.kids[0])
}

func (m *model) plain(p *part) {
	if !p.is(api.Fn, api.Rec) {
		for _, kid := range p.kids {
			m.visit(kid)
		}
	}
	switch p.Kind {
	case api.Num:
		m.lay(p, "push", given(&m.c.Nums, p.N, func(n int64) bool { return n == p.N }))
	case api.Str:
		m.lay(p, "text", given(&m.c.Texts, p.S, func(s string) bool { return s == p.S }))
	case api.Truth:
		m.lay(p, "truth", int(p.N))
	case api.Var:
		m.lay(p, "local", int(p.N))
	case api.Fn:
		m.function(p, "fn")
	case api.Rec:
		m.function(p, "rec", ">"+p.T+p.U)
	case api.First, api.Second, api.Head, api.Tail, api.Empty:
		m.lay(p, "part", int(p.Kind))
	case api.List:
		m.lay(p, "list", p.Kids, given(&m.c.Types, p.T, func(t string) bool { return t == p.T }))
	case api.Cast:
		m.layCast(p, "cast", p)
	case api.Call, api.Pair, api.Cons, api.Box, api.Get, api.Set:
		m.lay(p, strings.ToLower(sample.KindNames()[p.Kind-1]))
	default:
		m.lay(p, "op", int(p.Kind))
	}
}

// emitted answers what the model makes of a term that checks.
func emitted(l []api.Node) api.Code {
	root, _ := grown(l, nil, 0)
	m := model{api.Code{Functions: []api.Function{{Result: root.of()}}}}
	m.visit(root)
	return m.c
}

// wantModel asks for what the model makes of the list, or for core.Check's error.
func wantModel(t *testing.T, l []api.Node) bool {
	t.Helper()
	if _, e, node := core.Check(l); e != api.OK {
		wantRefused(t, l, e, node)
		return false
	}
	if got, want := good(t, l), emitted(l); code.Show(got) != code.Show(want) {
		t.Fatalf("P19.2: %s:\n%s; the model has\n%s", sample.Written(l), told(got), told(want))
	}
	return true
}

// All short terms.
func TestModelOfShortTerms(t *testing.T) {
	checked := 0
	for nodes := 1; nodes <= 4; nodes++ {
		sample.EachTree(sample.SomeNodes(), nodes, func(l []api.Node) {
			if wantModel(t, l) {
				checked++
			}
		})
	}
	// Longer ones, of what is laid in the tail in its own way.
	some := []api.Node{{Kind: api.Num, N: 1}, {Kind: api.Truth}, {Kind: api.Var}, {Kind: api.Fn, Kids: 1, T: "i", U: "i"}, {Kind: api.Rec, Kids: 1, T: "i", U: "i"},
		{Kind: api.Cast, Kids: 1, T: "i", U: "?", N: 1}, {Kind: api.Cast, Kids: 1, T: "?", U: "i", N: 2}, {Kind: api.If, Kids: 3}, {Kind: api.Let, Kids: 2}, {Kind: api.Call, Kids: 2}, {Kind: api.Neg, Kids: 1}}
	for nodes := 5; nodes <= 6; nodes++ {
		sample.EachTree(some, nodes, func(l []api.Node) {
			if wantModel(t, l) {
				checked++
			}
		})
	}
	if checked < 2300 {
		t.Errorf("too few terms that check: %d", checked)
	}
}

// Dealt terms, as they are, with something in each field that counts for nothing, and spoilt.
func TestModelOfDealtTerms(t *testing.T) {
	g := sample.Maker{Dice: 191}
	checked, refused := 0, 0
	for range 12000 {
		l := g.Deal()
		switch g.Below(4) {
		case 0:
			l = g.Spoilt(l)
		case 1:
			l = g.Noisy(l)
		}
		if wantModel(t, l) {
			checked++
		} else {
			refused++
		}
	}
	if checked < 9000 || refused < 1000 {
		t.Errorf("too few terms: %d that check, %d refused", checked, refused)
	}
}

// The terms that eval's runs are known of.
func TestModelOfKnownTerms(t *testing.T) {
	for _, some := range [][]sample.Known{sample.Rows(), sample.Wholes(), sample.Orders(), sample.Depths(), sample.Texts()} {
		for _, known := range some {
			if _, e, _ := emit.Emit(known.Term); e == api.ErrMany {
				continue
			}
			wantModel(t, known.Term)
		}
	}
}
