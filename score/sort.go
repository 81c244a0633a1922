package score

// sorted is the elements of l, in new memory, in the order that order tells: below 0 if its first argument comes first, above 0 if its second one does. Where it tells 0, they keep theirs.
func sorted[E any](l []E, order func(a, b E) int) []E {
	if len(l) < 2 {
		return append([]E(nil), l...)
	}
	half := len(l) / 2
	return merged(sorted(l[:half], order), sorted(l[half:], order), order)
}

// merged is the elements of a and b, both of which are in order, in one order.
func merged[E any](a, b []E, order func(a, b E) int) []E {
	l := make([]E, 0, len(a)+len(b))
	for len(a) > 0 && len(b) > 0 {
		if order(a[0], b[0]) > 0 {
			l, b = append(l, b[0]), b[1:]
		} else {
			l, a = append(l, a[0]), a[1:]
		}
	}
	return append(append(l, a...), b...)
}
