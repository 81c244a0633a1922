package fault_test

import (
	"errors"
	"math"
	"slices"
	"strconv"
	"strings"
	"testing"

	"copse/api"
	"copse/fault"
)

// codes are all errors of api, and some numbers that are none.
func codes() []api.Errno {
	return []api.Errno{
		api.ErrArg, api.ErrFull, api.ErrLong, api.ErrNone, api.ErrOnce, api.ErrOff, api.ErrShut, api.ErrBusy, api.ErrOver, api.ErrZero, api.ErrText, api.ErrRatio, api.ErrDraws, api.ErrTries,
		api.ErrVec, api.ErrCut, api.ErrTree, api.ErrScore, api.ErrForest, api.ErrConf, api.ErrShort, api.ErrForm, api.ErrSum, api.ErrLog, api.ErrState, api.ErrLine,
		-1, -4, 9, 62, 1000, math.MaxInt, math.MinInt,
	}
}

// link is a link with a code whose step is of no account.
func link(code api.Errno) *fault.Fault {
	return fault.New("step", 1, code)
}

// P4.1
func TestNew(t *testing.T) {
	for _, code := range codes() {
		f := fault.New("draw", 7, code)
		if f == nil || fault.Code(f) != code || !slices.Equal(fault.Steps(f), []api.Step{{Op: "draw", At: 7}}) {
			t.Error(code, f)
		}
	}
	if f := fault.New("draw", 7, api.OK); f != nil {
		t.Error(f)
	}
}

// P4.1
func TestWrap(t *testing.T) {
	inner := link(api.ErrTries)
	f := fault.Wrap("ask", 3, inner)
	if f == nil || f == inner || errors.Unwrap(f) != error(inner) || !slices.Equal(fault.Steps(f), []api.Step{{Op: "ask", At: 3}, {Op: "step", At: 1}}) {
		t.Error(f)
	}
	if f := fault.Wrap("ask", 3, nil); f != nil {
		t.Error(f)
	}
}

// P4.1
func TestBoth(t *testing.T) {
	a, b := link(api.ErrFull), link(api.ErrOff)
	f := fault.Both(a, b)
	if f == nil || f == a || f == b || fault.Code(f) != api.ErrFull || fault.Code(fault.Both(b, a)) != api.ErrOff {
		t.Error(f)
	}
	if fault.Both(a, nil) != a || fault.Both(nil, b) != b || fault.Both(nil, nil) != nil {
		t.Error("nil")
	}
	if s := fault.Text(fault.Both(a, a)); s != "(step 1=2|step 1=2)" {
		t.Error(s)
	}
}

// P4.2
func TestCode(t *testing.T) {
	if e := fault.Code(nil); e != api.OK {
		t.Error(e)
	}
	for _, code := range codes() {
		f := link(code)
		other := link(1 - code)
		for i, g := range []*fault.Fault{
			f, fault.Wrap("a", 0, f), fault.Wrap("b", 0, fault.Wrap("a", 0, f)), fault.Both(f, other), fault.Both(fault.Both(f, other), other), fault.Both(fault.Wrap("a", 0, f), other),
			fault.Wrap("a", 0, fault.Both(f, other)), fault.Wrap("a", 0, fault.Both(fault.Wrap("b", 0, fault.Both(f, other)), other)),
		} {
			if e := fault.Code(g); e != code {
				t.Error(i, code, e)
			}
		}
	}
}

// tangle is a fault with links of these four codes in places of all kinds.
func tangle(a, b, c, d api.Errno) *fault.Fault {
	return fault.Wrap("w", 0, fault.Both(fault.Wrap("v", 1, fault.Both(link(a), fault.Wrap("u", 2, link(b)))), fault.Both(fault.Wrap("t", 3, fault.Wrap("s", 4, link(c))), link(d))))
}

// P4.2
func TestHas(t *testing.T) {
	for i, code := range codes() {
		others := slices.Delete(codes(), i, i+1)
		for _, f := range []*fault.Fault{link(code), fault.Wrap("a", -1, link(code)), tangle(code, others[0], others[1], others[2]), tangle(others[0], code, others[1], others[2]), tangle(others[0], others[1], code, others[2]), tangle(others[0], others[1], others[2], code)} {
			if !fault.Has(f, code) || fault.Has(f, api.OK) || fault.Has(f, others[3]) {
				t.Error(code, f)
			}
		}
		if fault.Has(nil, code) {
			t.Error(code)
		}
	}
	if fault.Has(nil, api.OK) {
		t.Error("nil")
	}
}

// P4.2
func TestClass(t *testing.T) {
	classes := map[api.Errno]int{
		api.OK: 0, api.ErrDraws: api.ClassDraws, api.ErrTries: api.ClassDraws, api.ErrFull: api.ClassSpace, api.ErrBusy: api.ClassSpace, api.ErrOff: api.ClassPower, api.ErrShut: api.ClassPower,
		api.ErrText: api.ClassBytes, api.ErrShort: api.ClassBytes, api.ErrForm: api.ClassBytes, api.ErrSum: api.ClassBytes, api.ErrLog: api.ClassBytes, api.ErrLine: api.ClassBytes,
	}
	check := func(code api.Errno) {
		want, ok := classes[code]
		if !ok {
			want = api.ClassAsked
		}
		if class := fault.Class(code); class != want {
			t.Error(code, class, want)
		}
	}
	for code := api.Errno(-500); code <= 500; code++ {
		check(code)
	}
	for _, code := range codes() {
		check(code)
	}
}

// P4.2
func TestOf(t *testing.T) {
	for class, code := range map[int]api.Errno{api.ClassAsked: -4, api.ClassDraws: api.ErrTries, api.ClassSpace: api.ErrBusy, api.ClassPower: api.ErrOff, api.ClassBytes: api.ErrForm} {
		other := api.ErrArg
		if class == api.ClassAsked {
			other = api.ErrLine
		}
		for _, f := range []*fault.Fault{link(code), fault.Wrap("a", -1, link(code)), tangle(code, other, other, other), tangle(other, code, other, other), tangle(other, other, code, other), tangle(other, other, other, code)} {
			if !fault.Of(f, class) {
				t.Error(class, f)
			}
			for wrong := -1; wrong <= 6; wrong++ {
				if wrong != class && wrong != fault.Class(other) && fault.Of(f, wrong) {
					t.Error(class, wrong, f)
				}
			}
		}
		if fault.Of(link(other), class) || fault.Of(nil, class) {
			t.Error(class)
		}
	}
	if fault.Of(nil, 0) {
		t.Error("nil")
	}
}

// P4.3
func TestSteps(t *testing.T) {
	if l := fault.Steps(nil); len(l) != 0 {
		t.Error(l)
	}
	f := fault.Wrap("both", -1, fault.Both(fault.Wrap("ask", 3, fault.New("draw", -8, api.ErrTries)), fault.New("put", 2, api.ErrFull)))
	want := []api.Step{{Op: "both", At: -1}, {Op: "ask", At: 3}, {Op: "draw", At: -8}}
	l := fault.Steps(f)
	if !slices.Equal(l, want) {
		t.Error(l)
	}
	l[0] = api.Step{}
	_ = append(l[:1], api.Step{})
	if again := fault.Steps(f); !slices.Equal(again, want) {
		t.Error(again)
	}
}

// P4.3
func TestText(t *testing.T) {
	draw := fault.New("draw", -1, api.ErrTries)
	ask := fault.Wrap("ask", 3, draw)
	put := fault.New("put", 2, api.ErrFull)
	for want, f := range map[string]*fault.Fault{
		"":                                  nil,
		"draw=61":                           draw,
		"put 2=2":                           put,
		"ask 3>draw=61":                     ask,
		"a 0=-4":                            fault.New("a", 0, -4),
		"=1":                                fault.New("", -1, 1),
		" 0>=1":                             fault.Wrap("", 0, fault.New("", -1, 1)),
		"ask>put 2=2":                       fault.Wrap("ask", -7, put),
		"a>b 9=5|c\x00=\xff=7":              fault.New("a>b 9=5|c\x00=\xff", -1, 7),
		"(ask 3>draw=61|put 2=2)":           fault.Both(ask, put),
		"both 0>(ask 3>draw=61|put 2=2)":    fault.Wrap("both", 0, fault.Both(ask, put)),
		"((draw=61|put 2=2)|ask 3>draw=61)": fault.Both(fault.Both(draw, put), ask),
		"(draw=61|(put 2=2|ask 3>draw=61))": fault.Both(draw, fault.Both(put, ask)),
		"a 1>(b 2>(draw=61|put 2=2)|c 3>put 2=2)":                       fault.Wrap("a", 1, fault.Both(fault.Wrap("b", 2, fault.Both(draw, put)), fault.Wrap("c", 3, put))),
		"x 9223372036854775807=-9223372036854775808":                    fault.New("x", math.MaxInt, math.MinInt),
		"x=9223372036854775807":                                         fault.New("x", math.MinInt, math.MaxInt),
		"w 0>(v 1>(step 1=1|u 2>step 1=2)|(t 3>s 4>step 1=3|step 1=4))": tangle(1, 2, 3, 4),
	} {
		if s := fault.Text(f); s != want {
			t.Errorf("%q, not %q", s, want)
		}
		if s := f.Error(); s != want {
			t.Errorf("%q, not %q", s, want)
		}
	}
}

// P4.3, P4.2
func TestUnwrap(t *testing.T) {
	if err := (*fault.Fault)(nil).Unwrap(); err != nil {
		t.Error(err)
	}
	inner := link(api.ErrTries)
	if err := inner.Unwrap(); err != nil {
		t.Error(err)
	}
	ask := fault.Wrap("ask", 3, inner)
	if err := ask.Unwrap(); err != error(inner) {
		t.Error(err)
	}
	full := link(api.ErrFull)
	both := fault.Both(ask, full)
	if s := both.Unwrap().Error(); s != "(ask 3>step 1=61|step 1=2)" {
		t.Error(s)
	}
	outer := fault.Wrap("a", 0, fault.Both(fault.Wrap("b", 0, both), link(api.ErrOff)))
	for i, f := range []*fault.Fault{inner, ask, full, both, outer} {
		if !errors.Is(outer, f) {
			t.Error(i)
		}
	}
	// Others are not in it, whatever they have in common with what is.
	for i, f := range []*fault.Fault{link(api.ErrTries), link(api.ErrOff), fault.Wrap("ask", 3, inner), fault.Both(ask, full), fault.Wrap("z", 0, outer)} {
		if errors.Is(outer, f) {
			t.Error(i)
		}
	}
	if errors.Is(outer, errors.New(outer.Error())) || errors.Is(ask, full) || errors.Is(inner, ask) {
		t.Error("is")
	}
}

// elsewhere is an error of others, which wraps a fault.
type elsewhere struct{ f *fault.Fault }

func (e elsewhere) Error() string { return "elsewhere" }
func (e elsewhere) Unwrap() error { return e.f }

// P4.3
func TestAs(t *testing.T) {
	f := tangle(1, 2, 3, 4)
	var found *fault.Fault
	if !errors.As(f, &found) || found != f {
		t.Error(found)
	}
	found = nil
	if !errors.As(elsewhere{f}, &found) || found != f || !errors.Is(elsewhere{f}, f) {
		t.Error(found)
	}
	var other elsewhere
	if errors.As(f, &other) {
		t.Error(other)
	}
}

// P4.4
func TestWrapKeepsCodeAndClasses(t *testing.T) {
	for _, f := range []*fault.Fault{link(api.ErrFull), fault.Wrap("a", 0, link(-4)), fault.Both(link(api.ErrOff), link(api.ErrForm)), tangle(api.ErrTries, api.ErrArg, api.ErrBusy, api.ErrSum)} {
		g := fault.Wrap("more", 5, f)
		if fault.Code(g) != fault.Code(f) {
			t.Error(g)
		}
		for class := -1; class <= 6; class++ {
			if fault.Of(g, class) != fault.Of(f, class) {
				t.Error(g, class)
			}
		}
		if !slices.Equal(fault.Steps(g), append([]api.Step{{Op: "more", At: 5}}, fault.Steps(f)...)) {
			t.Error(g)
		}
		if fault.Text(g) != "more 5>"+fault.Text(f) {
			t.Error(g)
		}
	}
}

// Every call ends, and none panics, however deep a fault is.
func TestDeepFaults(t *testing.T) {
	const depth = 200000
	f := link(api.ErrOff)
	for i := range depth {
		f = fault.Wrap("w", i, f)
	}
	if fault.Code(f) != api.ErrOff || !fault.Has(f, api.ErrOff) || fault.Has(f, api.ErrArg) || !fault.Of(f, api.ClassPower) || fault.Of(f, api.ClassAsked) {
		t.Error("wrapped")
	}
	if l := fault.Steps(f); len(l) != depth+1 || l[0] != (api.Step{Op: "w", At: depth - 1}) {
		t.Error(len(l))
	}
	if s := fault.Text(f); !strings.HasPrefix(s, "w "+strconv.Itoa(depth-1)+">w ") || !strings.HasSuffix(s, ">w 0>step 1=6") {
		t.Error(len(s))
	}
	left, right := link(api.ErrOff), link(api.ErrOff)
	for range depth {
		left, right = fault.Both(left, link(api.ErrArg)), fault.Both(link(api.ErrArg), right)
	}
	for _, f := range []*fault.Fault{left, right} {
		if !fault.Has(f, api.ErrOff) || fault.Has(f, api.ErrFull) || !fault.Of(f, api.ClassPower) || fault.Of(f, api.ClassSpace) || len(fault.Steps(f)) != 1 || len(fault.Text(f)) != 8+depth*11 {
			t.Error("combined")
		}
	}
	if fault.Code(left) != api.ErrOff || fault.Code(right) != api.ErrArg {
		t.Error("code")
	}
}

// Every call ends whose answer is short, however often a fault holds the same one.
func TestFaultsCombinedWithThemselves(t *testing.T) {
	f := fault.Both(link(api.ErrOff), link(api.ErrFull))
	for range 200 {
		f = fault.Both(fault.Wrap("w", 0, f), fault.Wrap("v", 0, f))
	}
	if fault.Code(f) != api.ErrOff || !fault.Has(f, api.ErrFull) || fault.Has(f, api.ErrArg) || !fault.Of(f, api.ClassSpace) || fault.Of(f, api.ClassBytes) || len(fault.Steps(f)) != 201 {
		t.Error("combined")
	}
}

// Faults are not changed by what is made of them, nor by what is asked of them.
func TestFaultsStay(t *testing.T) {
	f := tangle(1, 2, 3, 4)
	want := fault.Text(f)
	fault.Wrap("a", 0, f)
	fault.Both(f, f)
	fault.Has(f, 9)
	fault.Of(f, 9)
	fault.Code(f)
	fault.Steps(f)
	if s := fault.Text(f); s != want {
		t.Error(s)
	}
}
