package tree_test

import (
	"math"
	"slices"
	"testing"

	"culprit/api"
	tested "culprit/tree"
)

func TestArityOfEveryKind(t *testing.T) {
	for kind := math.MinInt8; kind <= math.MaxInt8; kind++ {
		want, wantOK := kidsOf(int8(kind)), 1 <= kind && kind <= 29 && int8(kind) != api.List
		if int8(kind) == api.Cast {
			want, wantOK = 1, true
		}
		if got, ok := tested.Arity(int8(kind)); got != want || ok != wantOK {
			t.Errorf("P5.2: Arity(%d) = %d, %v; want %d, %v", kind, got, ok, want, wantOK)
		}
	}
	for _, c := range []struct {
		kind int8
		want int
	}{{api.Num, 0}, {api.Var, 0}, {api.Fn, 1}, {api.Get, 1}, {api.Cast, 1}, {api.Let, 2}, {api.Set, 2}, {api.If, 3}} {
		if got, ok := tested.Arity(c.kind); got != c.want || !ok {
			t.Errorf("P5.2: Arity(%d) = %d, %v; want %d", c.kind, got, ok, c.want)
		}
	}
}

// wantParts asks of one place of a list what its part is, its kids, and of the whole how deep it is.
func wantParts(t *testing.T, l []api.Node, at int) {
	t.Helper()
	want, wantKids := 0, []int(nil)
	if 0 <= at && at < len(l) {
		if end, ok := endOf(l, at); ok {
			want, wantKids = end, kidsAt(l, at)
		}
	}
	if got := tested.Behind(l, at); got != want {
		t.Errorf("P5.3: Behind(%s, %d) = %d; want %d", shown(l), at, got, want)
	}
	if got := tested.Kids(l, at); !slices.Equal(got, wantKids) {
		t.Errorf("P5.3: Kids(%s, %d) = %v; want %v", shown(l), at, got, wantKids)
	}
}

func wantDeep(t *testing.T, l []api.Node) {
	t.Helper()
	want := 0
	if end, ok := endOf(l, 0); ok && end == len(l) {
		want = slices.Max(depths(l))
	}
	if got := tested.Deep(l); got != want {
		t.Errorf("P5.4: Deep(%s) = %d; want %d", shown(l), got, want)
	}
}

func TestPartsOfTheTable(t *testing.T) {
	l := tree(with(api.If), name("a"), with(api.Pair), name("b"), name("c"), name("d"))
	if got := tested.Behind(l, 2); got != 5 {
		t.Errorf("P5.3: %d", got)
	}
	if got := tested.Kids(l, 0); !slices.Equal(got, []int{1, 2, 5}) {
		t.Errorf("P5.3: %v", got)
	}
	if got := tested.Deep(l); got != 3 {
		t.Errorf("P5.4: %d", got)
	}
	for at := range l {
		wantParts(t, l, at)
	}
}

// Kinds and fields are not looked at: these nodes have none that may be.
func bare(kids int) api.Node {
	return api.Node{Kind: 99, Kids: kids, N: -5, S: "let", T: "zz", U: "?"}
}

func TestPartsOfEveryShortList(t *testing.T) {
	some := tree(bare(0), bare(1), bare(2), bare(3), bare(-1), bare(math.MaxInt))
	eachList(some, 5, func(l []api.Node) {
		for at := -2; at <= len(l)+1; at++ {
			wantParts(t, l, at)
		}
		wantDeep(t, l)
	})
}

func TestNoPlaces(t *testing.T) {
	l := tree(bare(1), bare(0))
	for _, at := range []int{math.MinInt, -1, 2, 3, 1 << 32, math.MaxInt} {
		wantParts(t, l, at)
		wantParts(t, nil, at)
		wantParts(t, []api.Node{}, at)
	}
	wantParts(t, nil, 0)
	wantParts(t, []api.Node{}, 0)
	if tested.Deep(nil) != 0 || tested.Deep([]api.Node{}) != 0 {
		t.Error("P5.4, R4: a list without nodes is not whole")
	}
}

func TestHugeKids(t *testing.T) {
	for _, kids := range []int{7, 1 << 32, math.MaxInt, -1, math.MinInt} {
		for n := 1; n < 6; n++ {
			l := append(slices.Repeat(tree(bare(kids)), n), bare(0))
			for at := range n {
				if tested.Behind(l, at) != 0 || len(tested.Kids(l, at)) != 0 {
					t.Errorf("P5.3: of %v at %d", l, at)
				}
			}
			if tested.Behind(l, n) != n+1 || tested.Deep(l) != 0 {
				t.Errorf("P5.3, P5.4: of %v", l)
			}
		}
	}
	// What a part does not have is nothing to it.
	l := tree(bare(2), bare(1), bare(0), bare(-1), bare(math.MaxInt))
	if tested.Behind(l, 1) != 3 || tested.Behind(l, 0) != 0 || tested.Behind(l, 3) != 0 || tested.Behind(l, 4) != 0 {
		t.Errorf("P5.3: of %v", l)
	}
}

func TestLongAndDeepLists(t *testing.T) {
	const many = 1 << 16
	deep := append(slices.Repeat(tree(bare(1)), many-1), bare(0))
	if tested.Behind(deep, 0) != many || tested.Deep(deep) != many || !slices.Equal(tested.Kids(deep, 9), []int{10}) {
		t.Error("P5.3, P5.4: of a deep list")
	}
	if tested.Behind(deep[:many-1], 0) != 0 || tested.Deep(deep[:many-1]) != 0 || len(tested.Kids(deep[:many-1], 0)) != 0 {
		t.Error("P5.3, P5.4: of a deep list that ends too early")
	}
	wide := append(tree(bare(many-1)), slices.Repeat(tree(bare(0)), many-1)...)
	kids := tested.Kids(wide, 0)
	if tested.Behind(wide, 0) != many || tested.Deep(wide) != 2 || len(kids) != many-1 || kids[0] != 1 || kids[many-2] != many-1 {
		t.Error("P5.3, P5.4: of a wide list")
	}
	right := append(slices.Repeat(tree(bare(2), bare(0)), many/2), bare(0))
	left := append(slices.Repeat(tree(bare(2)), many/2), slices.Repeat(tree(bare(0)), many/2+1)...)
	if tested.Deep(right) != many/2+1 || tested.Deep(left) != many/2+1 || !slices.Equal(tested.Kids(left, 0), []int{1, many}) {
		t.Error("P5.3, P5.4: of leaning lists")
	}
}

func TestDeep(t *testing.T) {
	for n := range 130 {
		if got := tested.Deep(nested(n)); got != n+1 {
			t.Errorf("P5.4: of %d Negs and a Num: %d", n, got)
		}
	}
	wantDeep(t, append(tree(with(api.Pair)), append(nested(5), nested(3)...)...))
	wantDeep(t, append(tree(with(api.Pair)), append(nested(3), nested(5)...)...))
	wantDeep(t, tree(num(1), num(2)))
	wantDeep(t, tree(with(api.Pair), num(2)))
	wantDeep(t, tree(with(api.Neg), num(1), num(2)))
}

// Of whole lists: the kids' parts lie one behind the other, from right behind the node to its end; each part is whole by itself.
func wantPartsToFit(t *testing.T, l []api.Node) {
	t.Helper()
	if tested.Behind(l, 0) != len(l) {
		t.Errorf("follows: %v is not whole", l)
	}
	for at := range l {
		end := tested.Behind(l, at)
		kids := tested.Kids(l, at)
		if len(kids) != l[at].Kids {
			t.Errorf("follows: %v at %d has the kids %v", l, at, kids)
		}
		next := at + 1
		for _, kid := range kids {
			if kid != next {
				t.Errorf("follows: of %v at %d a kid begins at %d, not at %d", l, at, kid, next)
			}
			next = tested.Behind(l, kid)
		}
		if next != end || end <= at {
			t.Errorf("follows: of %v at %d the last kid ends at %d, the part at %d", l, at, next, end)
		}
		part := slices.Clone(l[at:end])
		if tested.Behind(part, 0) != len(part) || tested.Deep(part) < 1 {
			t.Errorf("follows: the part %v is not whole", part)
		}
		if e, _ := tested.Check(part); e != api.OK {
			t.Errorf("follows: the part %v is no tree: %d", part, e)
		}
	}
}

func TestWholeListsFollow(t *testing.T) {
	var d dice = 5
	for range 300 {
		l := d.grown(1+d.below(120), api.MaxNest)
		wantPartsToFit(t, l)
		wantDeep(t, l)
		for at := range l {
			wantParts(t, l, at)
		}
	}
	wantPartsToFit(t, nested(63))
	eachList(tree(num(0), with(api.Neg), with(api.Add), with(api.If), list(0), list(4)), 5, func(l []api.Node) {
		if end, ok := endOf(l, 0); ok && end == len(l) {
			wantPartsToFit(t, l)
		}
	})
}

func TestEqual(t *testing.T) {
	whole := api.Node{Kind: 5, Kids: 1, N: 2, S: "s", T: "t", U: "u", At: api.Place{Line: 1, Col: 2}}
	others := []func(*api.Node){
		func(n *api.Node) { n.Kind = 6 },
		func(n *api.Node) { n.Kids = 2 },
		func(n *api.Node) { n.N = 3 },
		func(n *api.Node) { n.S = "S" },
		func(n *api.Node) { n.T = "" },
		func(n *api.Node) { n.U = "t" },
	}
	l := slices.Repeat(tree(whole), 4)
	for at := range l {
		m := slices.Clone(l)
		for _, place := range []api.Place{{}, {Line: 1}, {Line: -1, Col: 9}} {
			m[at].At = place
			if !tested.Equal(l, m) || !tested.Equal(m, l) {
				t.Errorf("P5.5: a place is looked at: %v", m)
			}
		}
		for i, change := range others {
			m := slices.Clone(l)
			change(&m[at])
			if tested.Equal(l, m) || tested.Equal(m, l) || !tested.Equal(m, slices.Clone(m)) {
				t.Errorf("P5.5: the change %d at %d", i, at)
			}
		}
		if tested.Equal(l, l[:at]) || tested.Equal(l[:at], l) || !tested.Equal(l[:at], slices.Clone(l[:at])) {
			t.Errorf("P5.5: %d nodes and %d", len(l), at)
		}
	}
	if !tested.Equal(nil, nil) || !tested.Equal(nil, []api.Node{}) || !tested.Equal([]api.Node{}, nil) || tested.Equal(nil, l) || tested.Equal(l, nil) {
		t.Error("P5.5, R4: of lists without nodes")
	}
	if tested.Equal(tree(num(1), num(2)), tree(num(2), num(1))) {
		t.Error("P5.5: the order is not looked at")
	}
}

// R5: answers are new.
func TestKidsAreNew(t *testing.T) {
	l := tree(with(api.If), num(1), num(2), num(3))
	one, other := tested.Kids(l, 0), tested.Kids(l, 0)
	clear(one[:cap(one)])
	if !slices.Equal(other, []int{1, 2, 3}) || !slices.Equal(tested.Kids(l, 0), []int{1, 2, 3}) {
		t.Errorf("R5: two answers share memory: %v", other)
	}
}
