package rough

import (
	"slices"
	"strconv"
	"strings"

	"culprit/api"
	"culprit/code"
	"culprit/coerce"
	"culprit/sample"
)

// Read reads code: functions parted by " / ", each with a head, a colon, and its instructions, parted by ", ". A head has the parameter and the result, the program's the result alone, and behind a semicolon what is closed over; _ is the empty text. An instruction has its name (or # and a number), A and B; what is left out is 0; the kinds of op and part have names, too. Casts stand there by their types (and a label, or else 1), types of lists by themselves. There are the numbers 7 and -1, and the texts a and bc. It panics if the text is none.
func Read(text string) api.Code {
	c := api.Code{Nums: []int64{7, -1}, Texts: []string{"a", "bc"}}
	for _, one := range strings.Split(text, " / ") {
		c.Functions = append(c.Functions, function(&c, strings.TrimSpace(one)))
	}
	return c
}

func function(c *api.Code, text string) (f api.Function) {
	head, body, _ := strings.Cut(text, ":")
	own, env, _ := strings.Cut(head, ";")
	words := strings.Fields(strings.ReplaceAll(own, "_", `""`))
	for n, w := range words {
		words[n] = strings.Trim(w, `"`)
	}
	f.Result = words[len(words)-1]
	if len(words) > 1 {
		f.Param = words[0]
	}
	f.Env = strings.Fields(env)
	for _, one := range strings.Split(body, ", ") {
		if words := strings.Fields(one); len(words) > 0 {
			f.Code = append(f.Code, instruction(c, words))
		}
	}
	return f
}

func instruction(c *api.Code, words []string) (i api.Ins) {
	i.Op = opOf(words[0])
	if len(words) > 2 && isCast(i.Op) {
		i.A = castPlace(c, words[1:])
		return i
	}
	for n, field := range []*int{&i.A, &i.B} {
		if len(words) > n+1 {
			*field = numberOf(c, i.Op, words[n+1])
		}
	}
	return i
}

func isCast(op int8) bool { return op == code.Cast || op == code.Pend }

func opOf(name string) int8 {
	for op := int8(1); code.Name(op) != ""; op++ {
		if code.Name(op) == name {
			return op
		}
	}
	n, e := strconv.Atoi(strings.TrimPrefix(name, "#"))
	if e != nil {
		panic("the tests' own code has no such instruction: " + name)
	}
	return int8(n)
}

func numberOf(c *api.Code, op int8, word string) int {
	if n, e := strconv.Atoi(word); e == nil {
		return n
	}
	if op == code.List {
		return TypePlace(c, word)
	}
	return int(sample.KindOf(word))
}

// TypePlace answers the place of a type, a new one if it has none.
func TypePlace(c *api.Code, t string) int {
	if at := slices.Index(c.Types, t); at >= 0 {
		return at
	}
	c.Types = append(c.Types, t)
	return len(c.Types) - 1
}

func castPlace(c *api.Code, words []string) int {
	label := int64(1)
	if len(words) > 2 {
		n, _ := strconv.Atoi(words[2])
		label = int64(n)
	}
	return CastPlace(c, words[0], words[1], label)
}

// CastPlace answers the place of a cast, a new one if it has none.
func CastPlace(c *api.Code, from, to string, label int64) int {
	co, e := coerce.Of(from, to, label)
	if e != api.OK {
		panic("the tests' own code has a cast that is none: " + from + " " + to)
	}
	at := slices.IndexFunc(c.Casts, func(w api.Waits) bool { return w.From == from && w.To == to && slices.Equal(w.Co, co) })
	if at < 0 {
		at = len(c.Casts)
		c.Casts = append(c.Casts, api.Waits{From: from, To: to, Co: co})
	}
	return at
}

// Written writes code on one line, as code.Show does on many; of what is too long the beginning.
func Written(c api.Code) string {
	all := strings.ReplaceAll(code.Show(c), "\n", "|")
	if len(all) > 1500 {
		return all[:1500] + " .."
	}
	return all
}

// Clone answers code that shares no memory with c.
func Clone(c api.Code) api.Code {
	c.Nums, c.Texts, c.Types = slices.Clone(c.Nums), slices.Clone(c.Texts), slices.Clone(c.Types)
	c.Casts, c.Functions = slices.Clone(c.Casts), slices.Clone(c.Functions)
	for n := range c.Casts {
		c.Casts[n].Co = slices.Clone(c.Casts[n].Co)
	}
	for n, f := range c.Functions {
		c.Functions[n].Env, c.Functions[n].Code = slices.Clone(f.Env), slices.Clone(f.Code)
	}
	return c
}
