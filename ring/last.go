package ring

// last is the last elements that were added: as many as there are places, one after the other round the list, the oldest one at start.
type last[E any] struct {
	places []E
	start  int
	count  int
}

// place is where the element with the index i is: behind the last place follows the first one.
func (l *last[E]) place(i int) int {
	return (l.start + i) % len(l.places)
}

// push adds x; if all places are taken, in the place of the oldest element, which it returns, and true.
func (l *last[E]) push(x E) (oldest E, gone bool) {
	if l.count < len(l.places) {
		l.places[l.place(l.count)] = x
		l.count++
		return oldest, false
	}
	oldest = l.places[l.start]
	l.places[l.start] = x
	l.start = l.place(1)
	return oldest, true
}

// find is the index of the last element that is one, and true; false if there is none.
func (l *last[E]) find(is func(x E) bool) (int, bool) {
	for i := l.count - 1; i >= 0; i-- {
		if is(l.places[l.place(i)]) {
			return i, true
		}
	}
	return 0, false
}

// each is what tell tells of each element, the oldest one first.
func each[E, F any](l *last[E], tell func(x E) F) []F {
	told := make([]F, l.count)
	for i := range told {
		told[i] = tell(l.places[l.place(i)])
	}
	return told
}
