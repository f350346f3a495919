package print

import (
	"strings"

	"culprit/api"
)

// pen writes trees from the left. They may be, so none is too deep for it to call itself for each part.
type pen struct {
	strings.Builder
	coming []api.Node // of the tree that is being written, what is not written yet
}

// put writes pieces one behind the other.
func (p *pen) put(pieces ...string) {
	for _, piece := range pieces {
		p.WriteString(piece)
	}
}

// around writes pieces with a kid of whatever rank between each two: they hold it together as brackets do.
func (p *pen) around(pieces ...string) {
	for i, piece := range pieces {
		if i > 0 {
			p.kid(open)
		}
		p.put(piece)
	}
}

// between answers what is called ahead of each of several things: it writes a mark ahead of all but the first.
func (p *pen) between(mark string) func() {
	first := true
	return func() {
		if !first {
			p.put(mark)
		}
		first = false
	}
}

// source answers what was written, if it is not too long to be read.
func (p *pen) source() (string, api.Errno) {
	if p.Len() > api.MaxSource {
		return "", api.ErrLong
	}
	return p.String(), api.OK
}
