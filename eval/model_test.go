package eval_test

import (
	"slices"
	"strings"
	"testing"

	"culprit/api"
	"culprit/core"
	"culprit/heap"
	"culprit/sample"
	"culprit/value"
)

// model runs terms as the chapter's words say it, in calls of calls. It takes what values and boxes do from their packages, and nothing from the one that is tested.
type model struct {
	l           []api.Node
	fuel, steps int
	heap        *heap.Heap
	node        int // at which it is stuck
}

// closure: a function's code.
type closure struct {
	at  int
	env []value.Value // the nearest one first
}

// ended: why a run ended without a value, in words; "" where it goes on.
type ended string

// noSteps: the kinds without a step.
const noSteps = " Num Str Truth Var Fn Rec Let Cast "

// modelled: what the chapter says of a term of which core.Check says nothing under 1 and 2.
func modelled(l []api.Node, fuel, depth int) outcome {
	m := &model{l: l, fuel: fuel, heap: heap.New()}
	v, _, end := m.run(0, nil)
	if end != "" {
		return outcome{seen: string(end), steps: m.steps, node: m.node}
	}
	return outcome{seen: sample.Told(value.Seen(v, depth)), steps: m.steps}
}

// behind: where the part at a node ends.
func (m *model) behind(at int) int {
	missing := 1
	for ; missing > 0; at++ {
		missing += m.l[at].Kids - 1
	}
	return at
}

// refused: how a run goes on behind what a call of value or heap answers.
func (m *model) refused(at int, label int64, e api.Errno) ended {
	switch e {
	case api.OK:
		return ""
	case api.ErrBlame:
		return ended(sample.Told([]api.Obs{{Kind: api.OBlame, N: label}}))
	case api.ErrGone:
		return "fault34"
	}
	m.node = at
	return "fault32"
}

func (m *model) of(at int, v value.Value, label int64, e api.Errno) (value.Value, ended) {
	return v, m.refused(at, label, e)
}

// run runs the part at a node, and answers where it ends.
func (m *model) run(at int, env []value.Value) (v value.Value, end int, why ended) {
	n := m.l[at]
	kind := sample.KindNames()[n.Kind-1]
	end = m.behind(at)
	var kids []value.Value
	next := at + 1
	for i := range n.Kids {
		if kind == "Fn" || kind == "Rec" || i == 1 && (kind == "Let" || kind == "If") {
			break
		}
		if v, next, why = m.run(next, env); why != "" {
			return nil, end, why
		}
		kids = append(kids, v)
	}
	if !strings.Contains(noSteps, " "+kind+" ") {
		if m.steps == m.fuel {
			return nil, end, "fuel"
		}
		m.steps++
	}
	switch kind {
	case "Let":
		v, _, why = m.run(next, append(kids[:1:1], env...))
	case "If":
		yes, e := value.AsTruth(kids[0])
		if why = m.refused(at, 0, e); why != "" {
			break
		}
		if !yes {
			next = m.behind(next)
		}
		v, _, why = m.run(next, env)
	case "Call":
		v, why = m.call(at, kids[0], kids[1])
	case "Fn", "Rec":
		c := &closure{at: at, env: env}
		v = value.Fun(c)
		if kind == "Rec" {
			c.env = append([]value.Value{v}, env...)
		}
	case "Var":
		if n.N < 0 || n.N >= int64(len(env)) {
			m.node = at
			return nil, end, "fault32"
		}
		v = env[n.N]
	default:
		v, why = m.rest(at, kind, kids)
	}
	return v, end, why
}

func (m *model) call(at int, f, x value.Value) (value.Value, ended) {
	has, e := value.Code(f)
	if why := m.refused(at, 0, e); why != "" {
		return nil, why
	}
	arg, why := m.in(at, f, x)
	if why != "" {
		return nil, why
	}
	c := has.(*closure)
	v, _, why := m.run(c.at+1, append([]value.Value{arg}, c.env...))
	if why != "" {
		return nil, why
	}
	out, label, e := value.Res(f, v)
	return m.of(at, out, label, e)
}

func (m *model) in(at int, f, x value.Value) (value.Value, ended) {
	arg, label, e := value.Arg(f, x)
	return m.of(at, arg, label, e)
}

// rest: the kinds that need no more than what their kids gave.
func (m *model) rest(at int, kind string, kids []value.Value) (v value.Value, why ended) {
	n := m.l[at]
	var label int64
	var e api.Errno
	switch kind {
	case "Num":
		v = value.Num(n.N)
	case "Str":
		v = value.Text(n.S)
	case "Truth":
		v = value.Truth(n.N != 0)
	case "Cast":
		v, label, e = value.Cast(kids[0], n.T, n.U, n.N)
	case "Add", "Sub", "Mul", "Neg", "Eq", "Less":
		return m.numbers(at, kind, kids)
	case "Join", "Size":
		return m.texts(at, kind, kids)
	case "Pair":
		v = value.Pair(kids[0], kids[1])
	case "Cons":
		v = value.Cons(kids[0], kids[1])
	case "List":
		v = value.Nil()
		for _, kid := range slices.Backward(kids) {
			v = value.Cons(kid, v)
		}
	case "First":
		v, label, e = value.First(kids[0])
	case "Second":
		v, label, e = value.Second(kids[0])
	case "Head":
		v, label, e = value.Head(kids[0])
	case "Tail":
		v, label, e = value.Tail(kids[0])
	case "Empty":
		var none bool
		none, e = value.IsEmpty(kids[0])
		v = value.Truth(none)
	case "Box":
		v, e = m.heap.Make(kids[0])
	case "Get":
		v, label, e = m.heap.Get(kids[0])
	case "Set":
		label, e = m.heap.Set(kids[0], kids[1])
		v = kids[1]
	}
	return m.of(at, v, label, e)
}

func (m *model) numbers(at int, kind string, kids []value.Value) (value.Value, ended) {
	var n [2]int64
	for i, kid := range kids {
		var e api.Errno
		if n[i], e = value.AsNum(kid); e != api.OK {
			return m.of(at, nil, 0, e)
		}
	}
	switch kind {
	case "Add":
		return value.Num(n[0] + n[1]), ""
	case "Sub":
		return value.Num(n[0] - n[1]), ""
	case "Mul":
		return value.Num(n[0] * n[1]), ""
	case "Neg":
		return value.Num(-n[0]), ""
	case "Eq":
		return value.Truth(n[0] == n[1]), ""
	}
	return value.Truth(n[0] < n[1]), ""
}

func (m *model) texts(at int, kind string, kids []value.Value) (value.Value, ended) {
	all := ""
	for _, kid := range kids {
		s, e := value.AsText(kid)
		if e != api.OK {
			return m.of(at, nil, 0, e)
		}
		all += s
	}
	switch {
	case kind == "Size":
		return value.Num(int64(len(all))), ""
	case len(all) > 4096:
		return nil, "fault35"
	}
	return value.Text(all), ""
}

// wantAsModel holds both calls against the model, and answers what it says.
func wantAsModel(t *testing.T, l []api.Node, fuel, depth int) outcome {
	t.Helper()
	w := modelled(l, fuel, depth)
	if got := ranLoose(l, fuel, depth); got != w {
		t.Fatalf("P16.2: fuel %d, depth %d: %s: %s; want %s", fuel, depth, sample.Written(l), shown(got), shown(w))
	}
	_, e, _ := core.Check(l)
	if e != api.OK {
		w = outcome{e: e}
	}
	if got := ran(l, fuel, depth); got != w {
		t.Fatalf("P16.1: fuel %d, depth %d: %s: %s; want %s", fuel, depth, sample.Written(l), shown(got), shown(w))
	}
	return w
}

func TestEveryShortTerm(t *testing.T) {
	counts := map[string]int{}
	checked := 0
	for nodes := 1; nodes <= 4; nodes++ {
		sample.EachTree(sample.SomeNodes(), nodes, func(l []api.Node) {
			if wantAsModel(t, l, 20, 4).e == api.OK {
				checked++
			}
			counts[sample.First(ranLoose(l, 20, 4).seen)]++
		})
	}
	t.Log(checked, counts)
	if checked < 900 || counts["fault32"] < 30000 || counts["num"] < 300 || counts["fun"] < 5000 || counts["blame"] < 5 {
		t.Errorf("too few kinds of runs: %d that check, %v", checked, counts)
	}
}

// All terms of a few kinds, so long that functions are called, boxes are set, casts blame.
func TestEveryTermOfSomeKinds(t *testing.T) {
	for _, some := range [][]api.Node{
		{{Kind: api.Var}, {Kind: api.Var, N: 1}, {Kind: api.Fn, Kids: 1, T: "?", U: "?"}, {Kind: api.Rec, Kids: 1, T: "?", U: "?"}, {Kind: api.Call, Kids: 2}, {Kind: api.Cast, Kids: 1, T: ">??", U: "?", N: 1}, {Kind: api.Cast, Kids: 1, T: "?", U: ">??", N: 2}},
		{{Kind: api.Num, N: 1}, {Kind: api.Var}, {Kind: api.Let, Kids: 2}, {Kind: api.Box, Kids: 1}, {Kind: api.Get, Kids: 1}, {Kind: api.Set, Kids: 2}, {Kind: api.Cast, Kids: 1, T: "xi", U: "x?", N: 1}},
		{{Kind: api.Truth, N: 1}, {Kind: api.Truth}, {Kind: api.If, Kids: 3}, {Kind: api.List, T: "b"}, {Kind: api.Cons, Kids: 2}, {Kind: api.Head, Kids: 1}, {Kind: api.Empty, Kids: 1}, {Kind: api.Cast, Kids: 1, T: "b", U: "?", N: 1}, {Kind: api.Cast, Kids: 1, T: "?", U: "b", N: 2}},
	} {
		counts := map[string]int{}
		for nodes := 1; nodes <= 7 && (nodes < 7 || len(some) < 8); nodes++ {
			sample.EachTree(some, nodes, func(l []api.Node) {
				wantAsModel(t, l, 12, 3)
				counts[sample.First(ranLoose(l, 12, 3).seen)]++
			})
		}
		t.Log(counts)
		if counts["fault32"] < 1000 || len(counts) < 3 {
			t.Errorf("too few kinds of runs: %v", counts)
		}
	}
}

func TestDealtTerms(t *testing.T) {
	g := sample.Maker{Dice: 10}
	counts, kinds, longest, most := map[string]int{}, map[int8]int{}, 0, 0
	for range 8000 {
		l := g.Deal()
		if _, e, at := core.Check(l); e != api.OK {
			t.Fatalf("the tests' own maker made what does not check: %d at %d of %s", e, at, sample.Written(l))
		}
		o := wantAsModel(t, l, 150, 6)
		counts[sample.First(o.seen)]++
		longest, most = max(longest, len(l)), max(most, o.steps)
		for _, n := range l {
			kinds[n.Kind]++
		}
		wantAsModel(t, l, g.Below(o.steps+1), g.Below(9))
		for range 3 {
			l = g.Spoilt(l)
			o := wantAsModel(t, l, 150, 6)
			if o.e != api.OK {
				counts["loose "+sample.First(ranLoose(l, 150, 6).seen)]++
			}
		}
	}
	t.Logf("%v %v, %d nodes, %d steps", counts, kinds, longest, most)
	for _, name := range sample.KindNames() {
		if kinds[sample.KindOf(name)] < 200 && name != "As" {
			t.Errorf("too few kinds of nodes were dealt: %v", kinds)
		}
	}
	for _, seen := range strings.Fields("num text truth fun box pair empty cons blame fault34 fuel") {
		if counts[seen] < 20 || counts["loose "+seen] < 20 || counts["loose fault32"] < 3000 {
			t.Errorf("too few kinds of runs were dealt: %v", counts)
		}
	}
}
