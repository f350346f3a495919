package value

import "culprit/api"

// The kinds of values. Those with something in them stand behind pointers: so two values may be held against each other, whatever code or cell they have.
type (
	number   int64
	word     string
	truth    bool
	function struct{ code any }
	box      struct{ cell any }
	pair     struct{ first, second Value }
	empty    struct{}
	cons     struct{ first, rest Value }
)

func (number) value()    {}
func (word) value()      {}
func (truth) value()     {}
func (*function) value() {}
func (*box) value()      {}
func (*pair) value()     {}
func (empty) value()     {}
func (*cons) value()     {}

func (b truth) number() int64 {
	if b {
		return 1
	}
	return 0
}

// tagged is a value under the type ?, with the head that it has there.
type tagged struct {
	Value
	head byte
}

// wrapper is what stands around a function, a pair, a list or a box, and does to its parts what was done to it.
type wrapper interface {
	Value
	inner() Value
	head() byte
	pass(x Value, p passage) (Value, int64, api.Errno)
	around(v Value) (Value, int64, api.Errno)
}

func asNumber(v Value) (int64, api.Errno) {
	n, ok := v.(number)
	if !ok {
		return 0, api.ErrStuck
	}
	return int64(n), api.OK
}

func asWord(v Value) (string, api.Errno) {
	s, ok := v.(word)
	if !ok {
		return "", api.ErrStuck
	}
	return string(s), api.OK
}

func asTruth(v Value) (bool, api.Errno) {
	b, ok := v.(truth)
	if !ok {
		return false, api.ErrStuck
	}
	return bool(b), api.OK
}

func isEmpty(v Value) (bool, api.Errno) {
	switch v.(type) {
	case empty:
		return true, api.OK
	case *cons:
		return false, api.OK
	}
	return false, api.ErrStuck
}

func codeOf(v Value) (any, api.Errno) {
	f, ok := v.(*function)
	if !ok {
		return nil, api.ErrStuck
	}
	return f.code, api.OK
}

func cellOf(v Value) (any, api.Errno) {
	b, ok := v.(*box)
	if !ok {
		return nil, api.ErrStuck
	}
	return b.cell, api.OK
}
