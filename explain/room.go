package explain

import (
	"copse/api"
	"copse/vec"
)

// room is the least and the greatest value that a column may have.
type room [2]int

// narrow leaves those values that are away from v by what, times c, is at most rest. v itself stays: rest is not below 0, and c is not 0.
func (r *room) narrow(v, c, rest int) {
	if c > 0 {
		r[1] = min(r[1], v+rest/c)
	} else {
		r[0] = max(r[0], v-rest/-c)
	}
}

// column is how many steps test a column, and its room.
type column struct {
	steps int
	room  room
}

// columns is all columns of a vector.
type columns []column

// begin is so many columns that no step has tested yet.
func begin(count int) columns {
	l := make(columns, count)
	for i := range l {
		l[i].room = room{api.LeastValue, api.MostValue}
	}
	return l
}

// pass tells the columns that the cut c of a node sends x to the left, or to the right.
func (l columns) pass(c api.Cut, x []int, left bool) {
	// There is a product: the cut and x are of the same dimension.
	product, _ := vec.Dot(c.Coef, x)
	for i, n := range c.Coef {
		switch {
		case n == 0:
			continue
		case left:
			// The product may become greater, as long as it stays below At.
			l[i].room.narrow(x[i], n, c.At-1-product)
		default:
			// The product may become less, down to At.
			l[i].room.narrow(x[i], -n, product-c.At)
		}
		l[i].steps++
	}
}

// whys is what was told of the columns.
func (l columns) whys() []api.Why {
	why := make([]api.Why, len(l))
	for i, c := range l {
		why[i] = api.Why{Steps: c.steps, Lo: c.room[0], Hi: c.room[1]}
	}
	return why
}
