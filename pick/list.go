package pick

import "iter"

// list is the numbers from 0 on, each at its own index but for those that were exchanged: only what differs from its index is kept.
type list map[int]int

func (l list) at(i int) int {
	if n, ok := l[i]; ok {
		return n
	}
	return i
}

func (l list) set(i, n int) {
	if n == i {
		delete(l, i)
		return
	}
	l[i] = n
}

func (l list) exchange(i, j int) {
	a, b := l.at(i), l.at(j)
	l.set(i, b)
	l.set(j, a)
}

// first goes through the first k elements.
func (l list) first(k int) iter.Seq[int] {
	return func(yield func(int) bool) {
		for i := range k {
			if !yield(l.at(i)) {
				return
			}
		}
	}
}

// picked are the numbers that picks pick, each of which must not reach beyond the list's end.
func picked(picks []int) []int {
	l := list{}
	for i, pick := range picks {
		l.exchange(i, i+pick)
	}
	numbers := make([]int, 0, len(picks))
	for n := range l.first(len(picks)) {
		numbers = append(numbers, n)
	}
	return numbers
}

// picking are the picks that pick s, whose numbers must differ from each other.
func picking(s []int) []int {
	numbers, places := list{}, list{}
	picks := make([]int, 0, len(s))
	for i, n := range s {
		picks = append(picks, places.at(n)-i)
		// Where numbers and their places are told by one list each, an exchange of two places in the one is one of two numbers in the other.
		places.exchange(n, numbers.at(i))
		numbers.exchange(i, i+picks[i])
	}
	return picks
}
