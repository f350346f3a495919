package safe_test

// What is here is a little run of casts, for the tests alone: things of a type are made in some ways, cast, and taken apart in all ways; who is blamed is kept.

type thing any

type (
	function func(thing) thing
	pair     [2]func() thing
	list     []func() thing
	box      struct {
		get func() thing
		set func(thing)
	}
	// unknown is what a ? holds: a thing of a ground.
	unknown struct {
		ground string
		held   thing
	}
)

// blame is what a failed cast panics with: whether its label is turned round.
type blame struct{ turned bool }

// cast is made lazily: parts are cast when they are taken out.
func cast(v thing, s, t string, turned bool) thing {
	switch {
	case s == "?" && t == "?":
		return v
	case t == "?":
		return unknown{groundOf(s), cast(v, s, groundOf(s), turned)}
	case s == "?":
		u := v.(unknown)
		if u.ground != groundOf(t) {
			panic(blame{turned})
		}
		return cast(u.held, u.ground, t, turned)
	case s[0] != t[0]:
		panic(blame{turned})
	}
	return wrapped(v, partsOf(s), partsOf(t), turned)
}

func wrapped(v thing, s, t []string, turned bool) thing {
	later := func(held func() thing, i int) func() thing {
		return func() thing { return cast(held(), s[i], t[i], turned) }
	}
	switch v := v.(type) {
	case function:
		return function(func(given thing) thing {
			return cast(v(cast(given, t[0], s[0], !turned)), s[1], t[1], turned)
		})
	case pair:
		return pair{later(v[0], 0), later(v[1], 1)}
	case list:
		all := make(list, len(v))
		for i := range v {
			all[i] = later(v[i], 0)
		}
		return all
	case box:
		return box{later(v.get, 0), func(put thing) { v.set(cast(put, t[0], s[0], !turned)) }}
	}
	return v
}

// blames are the sides that some way to run a cast blamed.
type blames struct{ inside, context bool }

// blamesOf runs a cast from s to t on things of s, each used in all ways that t lets it be.
func blamesOf(s, t string) blames {
	var b blames
	const deep = 2
	for _, v := range b.things(s, deep) {
		b.try(func() { b.use(cast(v, s, t, false), t, deep) })
	}
	return b
}

// try keeps the blame that ends what is done: a run that does it alone ends so.
func (b *blames) try(do func()) {
	defer func() {
		if r := recover(); r != nil {
			if r.(blame).turned {
				b.context = true
			} else {
				b.inside = true
			}
		}
	}()
	do()
}

// things makes some of a type; its functions and boxes use what they are given, down to a depth.
func (b *blames) things(t string, deep int) []thing {
	switch t {
	case "i":
		return []thing{1}
	case "b":
		return []thing{true}
	case "t":
		return []thing{"text"}
	case "?":
		return b.unknowns(deep)
	}
	var all []thing
	parts := partsOf(t)
	for _, last := range b.things(parts[len(parts)-1], deep) {
		all = append(all, b.made(t[0], parts, last, deep)...)
	}
	return all
}

// unknowns makes one thing of each ground: all of them would be too many.
func (b *blames) unknowns(deep int) []thing {
	all := []thing{unknown{"i", 1}, unknown{"b", true}, unknown{"t", "text"}}
	if deep > 0 {
		for _, ground := range []string{">??", ",??", "l?", "x?"} {
			all = append(all, unknown{ground, b.things(ground, deep-1)[0]})
		}
	}
	return all
}

// made are the things of a head whose last part is told.
func (b *blames) made(head byte, parts []string, last thing, deep int) []thing {
	same := func() thing { return last }
	switch head {
	case '>':
		return []thing{function(func(given thing) thing {
			b.use(given, parts[0], deep-1)
			return last
		})}
	case ',':
		var all []thing
		for _, first := range b.things(parts[0], deep) {
			all = append(all, pair{func() thing { return first }, same})
		}
		return all
	case 'l':
		return []thing{list{same}}
	}
	held := last
	return []thing{box{func() thing { return held }, func(put thing) {
		held = put
		b.use(held, parts[0], deep-1) // who made the box takes out what others set
	}}}
}

// use takes a thing of a type apart in all ways, down to a depth.
func (b *blames) use(v thing, t string, deep int) {
	if deep < 0 {
		return
	}
	take := func(part func() thing, t string) {
		b.try(func() { b.use(part(), t, deep-1) })
	}
	switch v := v.(type) {
	case unknown:
		b.use(v.held, v.ground, deep)
	case function:
		for _, given := range b.things(partsOf(t)[0], deep-1) {
			take(func() thing { return v(given) }, partsOf(t)[1])
		}
	case pair:
		for i, part := range partsOf(t) {
			take(v[i], part)
		}
	case list:
		for _, held := range v {
			take(held, partsOf(t)[0])
		}
	case box:
		take(v.get, partsOf(t)[0])
		for _, put := range b.things(partsOf(t)[0], deep-1) {
			b.try(func() { v.set(put) })
			take(v.get, partsOf(t)[0])
		}
	}
}
