// Package rough has what the tests of the layers above code need: code read from short texts or dealt by a rule, and chapters 20 and 21 of the document followed in the plainest way.
package rough

// List is a list of types, grown at its front; nil has none.
type List struct {
	Front string
	Rest  *List
	Size  int
}

// With answers a list with one more in front.
func (l *List) With(front string) *List { return &List{front, l, l.size() + 1} }

// Of answers a list of these.
func Of(texts []string) (l *List) {
	for i := len(texts) - 1; i >= 0; i-- {
		l = l.With(texts[i])
	}
	return l
}

// Texts answers what a list has.
func (l *List) Texts() (all []string) {
	for ; l != nil; l = l.Rest {
		all = append(all, l.Front)
	}
	return all
}

func (l *List) size() int {
	if l == nil {
		return 0
	}
	return l.Size
}

func same(l, m *List) bool {
	for l != m {
		if l.size() != m.size() || l.Front != m.Front {
			return false
		}
		l, m = l.Rest, m.Rest
	}
	return true
}
