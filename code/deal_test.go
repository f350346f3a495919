package code_test

import (
	"math"
	"slices"
	"strings"

	"culprit/api"
)

// dice deals numbers by a rule, so that each run of a test deals the same ones.
type dice uint64

func (d *dice) below(n int) int {
	*d = *d*6364136223846793005 + 1442695040888963407
	return int(uint64(*d) >> 33 % uint64(n))
}

func (d *dice) coin() bool { return d.below(2) == 0 }

// someNumbers: at the ends of what fields may hold, where a digit more is needed, and around 0.
func someNumbers() []int64 {
	return []int64{0, 1, -1, 2, 7, 9, 10, -9, -10, 99, 100, -100, 101, 127, 128, -128, -129, 255, 256, 1 << 31, -1 << 31, 1<<31 - 1, 1 << 32, 1e18, -1e18, math.MaxInt64 - 1, math.MaxInt64, math.MinInt64 + 1, math.MinInt64}
}

func (d *dice) number() int64 {
	if d.coin() {
		return someNumbers()[d.below(len(someNumbers()))]
	}
	return int64(d.below(300) - 100)
}

// text deals any bytes, many of them such as could be taken for what stands around them.
func (d *dice) text() string {
	b := make([]byte, d.below(6))
	for i := range b {
		b[i] = byte(d.below(256))
		if d.below(3) > 0 {
			b[i] = "i?>,\" \\x:0a\n#.\x7f"[d.below(15)]
		}
	}
	return string(b)
}

func (d *dice) texts(most int) []string {
	var l []string
	for range d.below(most + 1) {
		l = append(l, d.text())
	}
	return l
}

func (d *dice) node() api.Co {
	return api.Co{Op: int8(d.below(256) - 128), Proj: d.number(), Inj: d.coin(), Head: byte(d.below(256)), Label: d.number(), From: byte(d.below(256)), To: byte(d.below(256))}
}

func (d *dice) instruction() api.Ins {
	i := api.Ins{Op: int8(d.below(256) - 128), A: int(d.number()), B: int(d.number())}
	if d.below(3) > 0 {
		i.Op = int8(d.below(25))
	}
	return i
}

// code deals any code, most of which may not run.
func (d *dice) code() api.Code {
	var c api.Code
	for range d.below(4) {
		c.Nums = append(c.Nums, d.number())
	}
	c.Texts, c.Types = d.texts(3), d.texts(3)
	for range d.below(3) {
		w := api.Waits{From: d.text(), To: d.text()}
		for range d.below(4) {
			w.Co = append(w.Co, d.node())
		}
		c.Casts = append(c.Casts, w)
	}
	for range d.below(4) {
		f := api.Function{Env: d.texts(3), Param: d.text(), Result: d.text()}
		for range d.below(4) {
			f.Code = append(f.Code, d.instruction())
		}
		c.Functions = append(c.Functions, f)
	}
	return c
}

// spoilt changes a text that has bytes in one place: a byte, a line, or how two lines stand.
func (d *dice) spoilt(text string) string {
	at := d.below(len(text))
	some := string([]byte{"0123456789-+.#:\" \\xaAf\n\n\t"[d.below(25)]})
	lines := strings.SplitAfter(text, "\n")
	one, other := d.below(len(lines)), d.below(len(lines))
	switch d.below(7) {
	case 0, 1:
		return text[:at] + text[at+1:]
	case 2, 3:
		return text[:at] + some + text[at:]
	case 4:
		return text[:at] + some + text[at+1:]
	case 5:
		lines[one], lines[other] = lines[other], lines[one]
	case 6:
		lines = slices.Insert(lines, one, lines[other])
	}
	return strings.Join(lines, "")
}
