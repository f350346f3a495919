package verify

// list is a list of texts, by its number on a shelf; 0 has none.
type list int

// shelf has each list just once, so that two are the same if their numbers are, however long they are: long code has long lists at each of its places.
type shelf struct {
	links   []link
	numbers map[ahead]list
}

// ahead: a text in front of a list.
type ahead struct {
	front string
	rest  list
}

// link is a list that is not empty.
type link struct {
	ahead
	far    list // a list further in, so that a deep place is found in few leaps
	length int
	alike  int // how many texts at the front are the same
}

func newShelf() shelf { return shelf{links: make([]link, 1), numbers: map[ahead]list{}} }

// with answers the list with one more text in front.
func (s *shelf) with(front string, rest list) list {
	key := ahead{front, rest}
	if l, stands := s.numbers[key]; stands {
		return l
	}
	behind := s.links[rest]
	one := link{ahead: key, far: s.leap(rest), length: behind.length + 1, alike: 1}
	if behind.front == front {
		one.alike += behind.alike
	}
	l := list(len(s.links))
	s.links = append(s.links, one)
	s.numbers[key] = l
	return l
}

// leap answers what a list with that rest leaps to: two leaps of one length are followed by one over both.
func (s *shelf) leap(rest list) list {
	near := s.links[rest].far
	far := s.links[near].far
	if s.length(rest)-s.length(near) == s.length(near)-s.length(far) {
		return far
	}
	return rest
}

// of answers the list of these texts.
func (s *shelf) of(texts []string) list {
	var l list
	for i := len(texts) - 1; i >= 0; i-- {
		l = s.with(texts[i], l)
	}
	return l
}

// texts answers those of a list.
func (s *shelf) texts(l list) []string {
	all := make([]string, 0, s.length(l))
	for ; l != 0; l = s.links[l].rest {
		all = append(all, s.links[l].front)
	}
	return all
}

func (s *shelf) length(l list) int { return s.links[l].length }

// without answers the list that so many texts stand in front of.
func (s *shelf) without(l list, texts int) list {
	for length := s.length(l) - texts; s.length(l) > length; {
		if one := s.links[l]; s.length(one.far) >= length {
			l = one.far
		} else {
			l = one.rest
		}
	}
	return l
}

// nth answers the text at a place of the list.
func (s *shelf) nth(l list, place int) string { return s.links[s.without(l, place)].front }

// begins tells whether so many texts at the front are this one.
func (s *shelf) begins(l list, texts int, text string) bool {
	return texts == 0 || s.links[l].front == text && s.links[l].alike >= texts
}
