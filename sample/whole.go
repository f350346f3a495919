package sample

import (
	"culprit/api"
	"culprit/module"
	"culprit/parse"
)

// Wholes answers the terms of the document's examples of the whole, as far as programs are run.
func Wholes() (all []Known) {
	for _, r := range sources() {
		all = append(all, Known{linked(r.text), 3, r.seen, r.steps})
	}
	return all
}

func sources() []row {
	return []row{
		{`module m { let x : int = 1 + 2; }`, "num3", 1},
		{`module m { let twice = fn (f) => fn (x) => f(f(x)); let y = twice(fn (n) => n + 3)(4); }`, "num10", 6},
		{`module m { let f = fn (x) => x + 1; let y = f("a"); }`, "blame1", 1},
		{`module lib { export let inc : int -> int = fn (n : int) : int => n + 1; } module app { import lib.inc : ? -> ?; let z = inc(true); }`, "blame-1", 1},
		{`module m { let p : (int, int) = (1, ("b" : ?)); let a = first(p); }`, "num1", 2},
		{`module m { let p : (int, int) = (1, ("b" : ?)); }`, "pair num1 blame2", 1},
		{`module m { let f = fn (x) => x + 1; let y : int = f(2); }`, "num3", 2},
		{`module m { let loop = rec go (n : int) : int => if n == 0 then 0 else go(n - 1); let z = loop(20); }`, "num0", 83},
		{`module m { let b : box ? = box((1 : ?)); let c : box int = b; let d = (b := ("t" : ?)); let e = !c; }`, "blame2", 3},
		{`module m { let f : int -> int = fn (x : int) : int => x + 1; let y : int = f(2); }`, "num3", 2},
		{`module a { export let x : int = 1; } module m { import a.x; let y : int = x + 1; }`, "num2", 1},
	}
}

// linked answers the core term of a source. It panics if there is none.
func linked(source string) []api.Node {
	modules, e, _ := parse.Modules([]byte(source))
	if e != api.OK {
		panic("the tests' own source is refused: " + source)
	}
	program, e, _ := module.Link(modules)
	if e != api.OK {
		panic("the tests' own modules are refused: " + source)
	}
	return program.Term
}
