package machine

import "culprit/api"

// frame is what is done behind a function's end: one of the types below.
type frame interface{ stands(c *count, n int) }

// comeBack is a return: a place, its row, and where its stack begins.
type comeBack struct {
	fn, at int
	row    *row
	base   int
}

// coercion waits for what the function answers.
type coercion []api.Co

// count: how many frames of each kind there are.
type count struct{ returns, coercions int }

func (comeBack) stands(c *count, n int) { c.returns += n }
func (coercion) stands(c *count, n int) { c.coercions += n }

// frames are those that wait, and how many there were at most.
type frames struct {
	all       []frame // the latest last
	now, most count
}

// latest answers the latest frame, or nil.
func (f *frames) latest() frame {
	if len(f.all) == 0 {
		return nil
	}
	return f.all[len(f.all)-1]
}

func (f *frames) push(one frame) {
	f.all = append(f.all, one)
	one.stands(&f.now, 1)
	f.most.returns = max(f.most.returns, f.now.returns)
	f.most.coercions = max(f.most.coercions, f.now.coercions)
}

// pop has the latest frame go, which there is.
func (f *frames) pop() {
	last := len(f.all) - 1
	f.all[last].stands(&f.now, -1)
	f.all[last], f.all = nil, f.all[:last]
}
