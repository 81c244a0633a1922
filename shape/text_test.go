package shape_test

import (
	"fmt"
	"math/rand/v2"
	"regexp"
	"strconv"
	"strings"
	"testing"

	"copse/api"
	"copse/shape"
	"copse/tree"
)

// text is the text of p as a node.
func (p *plant) text() string {
	if p.left == nil {
		return fmt.Sprint(p.size)
	}
	coef := strings.Trim(fmt.Sprint(p.coef), "[]")
	return fmt.Sprintf("(%s < %d %s %s)", coef, p.at, p.left.text(), p.right.text())
}

// P11.4
func TestText(t *testing.T) {
	for _, c := range []struct {
		plant *plant
		dim   int
		text  string
	}{
		{end(1), 1, "1:1"}, {end(64), 8, "8:64"}, {end(10), 3, "3:10"}, {at(3, at(2, end(1), end(1)), end(1)), 1, "1:(1 < 3 (1 < 2 1 1) 1)"}, {at(3, end(1), at(2, end(1), end(1))), 1, "1:(1 < 3 1 (1 < 2 1 1))"}, {at(-api.MaxReach, end(1), end(63)), 1, "1:(1 < -137438953472 1 63)"}, {at(api.MaxReach, end(63), end(1)), 1, "1:(1 < 137438953472 63 1)"},
		{fork([]int{-4, 0, 4, 1}, 0, end(20), end(3)), 4, "4:(-4 0 4 1 < 0 20 3)"}, {at(9, at(8, at(7, end(1), at(6, end(1), end(1))), end(1)), at(5, end(20), end(20))), 1, "1:(1 < 9 (1 < 8 (1 < 7 1 (1 < 6 1 1)) 1) (1 < 5 20 20))"}, {fork([]int{0, 0, 0, 0, 0, 0, 0, -1}, -1, end(2), end(2)), 8, "8:(0 0 0 0 0 0 0 -1 < -1 2 2)"},
	} {
		if s := shape.Text(c.plant.tree(c.dim)); s != c.text {
			t.Error(s, c.text)
		}
		if got, e := shape.Parse(c.text); !tree.Same(got, c.plant.tree(c.dim)) || e != api.OK {
			t.Error(c.text, got, e)
		}
	}
	for i, n := range none() {
		if s := shape.Text(n); s != "" {
			t.Error(i, s)
		}
	}
}

// P11.4
func TestParseErrors(t *testing.T) {
	for _, s := range []string{
		"", ":", "1", "1:", ":1", "0:1", "9:1", "-1:1", "01:1", "+1:1", " 1:1", "1: 1", "1 :1", "1:1 ", "1:1\n", "1:1:1", "1::1", "1:0", "1:-1", "1:65", "1:01", "1:+1", "1:1)", "1:(1", "1:()", "1:( )", "1:(1)", "1:(1 1)", "x:1", "1:x", "1:0x1", "1:1_0", "1:1.", "1:1e1", "\x001:1", "1:1\x00", "1:\xff", "1:\u0661", "18446744073709551617:1", "1:18446744073709551617", "1:9223372036854775808", "1:-9223372036854775809",
		"1:(1 < 3 1 1", "1:(1 < 3 1 1))", "1:1 < 3 1 1)", "1:((1 < 3 1 1)", "1:(1 < 3 1 1) ", "1:(1 < 3 1 1)1", "1:(1 < 3 1 1)(", "1:(1 < 3 1 1) 1", "1:(1 < 3 1 )", "1:(1 < 3 1)", "1:(1 < 3 1 1 1)", "1:(1 < 3)", "1:(1 < )", "1:(1 <)", "1:(1 3 1 1)", "1:( < 3 1 1)", "1:(< 3 1 1)", "1:(1 <  1 1)", "1:(1  < 3 1 1)", "1:(1 < 3  1 1)", "1:(1 < 3 1  1)", "1:(1 < 3 1 1 )", "1:( 1 < 3 1 1)", "1:(1< 3 1 1)", "1:(1 <3 1 1)", "1:(1<3 1 1)", "1:(1 > 3 1 1)", "1:(1 = 3 1 1)", "1:(1 < < 3 1 1)", "1:(1\t< 3 1 1)", "1:[1 < 3 1 1]",
		"1:(1 < 03 1 1)", "1:(1 < -0 1 1)", "1:(1 < +3 1 1)", "1:(1 < -03 1 1)", "1:(1 < - 3 1 1)", "1:(1 < --3 1 1)", "1:(01 < 3 1 1)", "1:(+1 < 3 1 1)", "1:(-0 < 3 1 1)", "1:(1 < 3 01 1)", "1:(1 < 3 1 01)", "1:(1 < 3 +1 1)", "1:(0 < 3 1 1)", "1:(5 < 3 1 1)", "1:(-5 < 3 1 1)", "1:(1 < 3 0 1)", "1:(1 < 3 1 0)", "1:(1 < 3 -1 3)", "1:(1 < 3 1 64)", "1:(1 < 3 64 1)", "1:(1 < 137438953473 1 1)", "1:(1 < -137438953473 1 1)", "1:(1 < 9223372036854775808 1 1)", "1:(18446744073709551617 < 3 1 1)", "1:(1 < 18446744073709551617 1 1)", "1:(1 < 3 18446744073709551617 1)", "1:(1 < 3 4611686018427387904 4611686018427387905)",
		"1:(1 1 < 3 1 1)", "2:(1 < 3 1 1)", "2:(0 0 < 3 1 1)", "2:(1 0 1 < 3 1 1)", "2:(1 0 < 3 (1 < 2 1 1) 1)", "2:(1  < 3 1 1)", "8:(0 0 0 0 0 0 0 0 1 < 3 1 1)", "1:(1 < 3 (1 < 2 1 1)) 1)", "1:(1 < 3 (1 < 2 1 1)1)", "1:(1 < 3 1(1 < 2 1 1))", "1:(1 < 3(1 < 2 1 1) 1)", "1:(1 < 3 ((1 < 2 1 1)) 1)", "1:(1 < 3 (1) 1)", "1:(1 < 3 1 (1))",
		// Too deep by one step.
		"1:(1 < 1 1 (1 < 2 1 (1 < 3 1 1)))", "1:(1 < 1 (1 < 2 (1 < 3 1 1) 1) 1)", "1:" + full(7).text(), "1:" + at(0, full(6), end(1)).text(), "1:" + at(0, end(1), full(6)).text(),
	} {
		if got, e := shape.Parse(s); got.Dim != 0 || len(got.Nodes) != 0 || e != api.ErrText {
			t.Error(s, got, e)
		}
	}
}

// P11.4: a text that is far too long is told as such soon
func TestParseOfLongTexts(t *testing.T) {
	const n = 1 << 20
	for _, s := range []string{"(", ")", " ", ":", "1", "0", "-", "< ", "(1 < 3 ", "(1 < 3 1 ", "1 ", "\x00"} {
		for _, head := range []string{"", "1:", "8:", "1:(", "1:(1 < 3 1 "} {
			if got, e := shape.Parse(head + strings.Repeat(s, n)); got.Dim != 0 || len(got.Nodes) != 0 || e != api.ErrText {
				t.Error(head, s, e)
			}
		}
	}
	// So many nodes below each other would be too deep to go down to.
	if _, e := shape.Parse("1:" + strings.Repeat("(", 1<<24)); e != api.ErrText {
		t.Error(e)
	}
	if _, e := shape.Parse("1000000000000:1"); e != api.ErrText {
		t.Error(e)
	}
}

// reading is a text that is read sign by sign, strictly; what does not belong there is a panic.
type reading struct {
	rest string
}

var decimal = regexp.MustCompile(`^(0|-?[1-9][0-9]*)`)

func (r *reading) sign(s string) {
	if !strings.HasPrefix(r.rest, s) {
		panic("no " + s)
	}
	r.rest = r.rest[len(s):]
}

func (r *reading) number() int {
	s := decimal.FindString(r.rest)
	r.sign(s)
	n, err := strconv.Atoi(s)
	if err != nil {
		panic(err)
	}
	return n
}

func (r *reading) plant(dim int) *plant {
	if r.rest == "" || r.rest[0] != '(' {
		return end(r.number())
	}
	r.sign("(")
	var coef []int
	for range dim {
		coef = append(coef, r.number())
		r.sign(" ")
	}
	r.sign("< ")
	level := r.number()
	r.sign(" ")
	left := r.plant(dim)
	r.sign(" ")
	right := r.plant(dim)
	r.sign(")")
	return fork(coef, level, left, right)
}

// read is the tree with that text; false if it is none's.
func read(s string) (t api.Tree, ok bool) {
	defer func() {
		if recover() != nil {
			t, ok = api.Tree{}, false
		}
	}()
	r := &reading{s}
	dim := r.number()
	if dim > 8 {
		return api.Tree{}, false
	}
	r.sign(":")
	t = r.plant(dim).tree(dim)
	if r.rest != "" || !tree.Is(t) {
		return api.Tree{}, false
	}
	return t, true
}

// changed is s with something put in, taken away, doubled or put in the place of something.
func changed(random *rand.Rand, s string) string {
	from := random.IntN(len(s) + 1)
	to := min(len(s), from+random.IntN(3))
	signs := "0123456789-+ <():"
	sign := string(signs[random.IntN(len(signs))])
	switch random.IntN(5) {
	case 0:
		return s[:from] + sign + s[from:]
	case 1:
		return s[:from] + s[to:]
	case 2:
		return s[:from] + s[from:to] + s[from:]
	case 3:
		return s[:from] + sign + s[min(len(s), from+1):]
	}
	return s[:from]
}

// P11.4, P11.5
func TestTextOfMany(t *testing.T) {
	random := rand.New(rand.NewPCG(11, 3))
	right, wrong := 0, 0
	for range 5000 {
		p, dim := some(random)
		before := p.tree(dim)
		s := shape.Text(before)
		if s != strconv.Itoa(dim)+":"+p.text() {
			t.Fatal(before, s)
		}
		if got, e := shape.Parse(s); !tree.Same(got, before) || e != api.OK {
			t.Fatal(s, got, e)
		}
		if !tree.Same(before, p.tree(dim)) {
			t.Fatal("what was handed in was changed")
		}
		other := changed(random, s)
		want, ok := read(other)
		got, e := shape.Parse(other)
		if !tree.Same(got, want) || ok != (e == api.OK) || (!ok && e != api.ErrText) {
			t.Fatal(other, got, e)
		}
		if ok {
			right++
		} else {
			wrong++
		}
	}
	if right < 500 || wrong < 500 {
		t.Error("seldom tested:", right, wrong)
	}
}

// P11.4: all short texts of a few signs
func TestParseOfAllShort(t *testing.T) {
	count := 0
	var fill func(s string)
	fill = func(s string) {
		_, ok := read(s)
		got, e := shape.Parse(s)
		if ok != (e == api.OK) || ok && shape.Text(got) != s {
			t.Fatal(s, got, e)
		}
		if ok {
			count++
		}
		if len(s) < 6 {
			for _, sign := range "16:( <-" {
				fill(s + string(sign))
			}
		}
	}
	fill("")
	// 1 and 6 as dimensions; 1, 6, 11, 16 and 61 as sizes.
	if count != 10 {
		t.Error(count)
	}
}
