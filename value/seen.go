package value

import "culprit/api"

// teller tells what is seen, from the left.
type teller struct {
	told []api.Obs
	rest []part // what is still to be told, the last one first
}

// part is one of a value's parts, which is taken out only when it is told: of a long list with many wrappers each rest has as many again.
type part struct {
	of    Value
	take  func(Value) (Value, int64, api.Errno)
	depth int
}

func (t *teller) add(kind int8, n int64, s string) {
	t.told = append(t.told, api.Obs{Kind: kind, N: n, S: s})
}

// tellAll tells a value and all its parts.
func (t *teller) tellAll(v Value, depth int) {
	t.tell(v, depth)
	for len(t.rest) > 0 {
		last := len(t.rest) - 1
		p := t.rest[last]
		t.rest[last], t.rest = part{}, t.rest[:last]
		switch x, blamed, e := p.take(p.of); e {
		case api.OK:
			t.tell(x, p.depth)
		case api.ErrBlame:
			t.add(api.OBlame, blamed, "")
		default:
			t.add(api.OFault, int64(e), "")
		}
	}
}

// tell tells a value; its parts are still to be told.
func (t *teller) tell(v Value, depth int) {
	if depth < 1 {
		t.add(api.ODeep, 0, "")
		return
	}
	v, core := untagged(v)
	switch x := core.(type) {
	case number:
		t.add(api.ONum, int64(x), "")
	case word:
		t.add(api.OText, 0, string(x))
	case truth:
		t.add(api.OTruth, x.number(), "")
	case *function:
		t.add(api.OFun, 0, "")
	case *box:
		t.add(api.OBox, 0, "")
	case *pair:
		t.two(api.OPair, part{v, First, depth - 1}, part{v, Second, depth - 1})
	case empty:
		t.add(api.OEmpty, 0, "")
	case *cons:
		t.two(api.OCons, part{v, Head, depth - 1}, part{v, Tail, depth - 1})
	default:
		t.add(api.OFault, int64(api.ErrStuck), "")
	}
}

// two tells a value of two parts, if there is room for them behind it and all that is still to be told.
func (t *teller) two(kind int8, first, second part) {
	if len(t.told)+len(t.rest)+1+2 > api.MaxObs {
		t.add(api.ODeep, 0, "")
		return
	}
	t.add(kind, 0, "")
	t.rest = append(t.rest, second, first)
}

// untagged answers a value without the tags under its wrappers, and these, and what stands under the wrappers that are left.
func untagged(v Value) (left, core Value) {
	left, core = v, v
	for {
		switch x := core.(type) {
		case wrapper:
			core = x.inner()
		case *tagged:
			left, core = x.Value, x.Value
		default:
			return left, core
		}
	}
}
