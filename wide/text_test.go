package wide_test

import (
	"strings"
	"testing"

	"copse/api"
	"copse/wide"
)

const top = "340282366920938463463374607431768211455"

// P2.3
func TestText(t *testing.T) {
	for _, a := range wides() {
		if s := wide.Text(a); s != exact(a).String() {
			t.Error(a, s)
		}
	}
	for a, want := range map[api.Wide]string{{}: "0", {Lo: 9}: "9", {Lo: 10}: "10", {Lo: 1<<64 - 1}: "18446744073709551615", {Hi: 1}: "18446744073709551616", {Hi: 1<<64 - 1, Lo: 1<<64 - 1}: top} {
		if s := wide.Text(a); s != want {
			t.Error(a, s)
		}
	}
}

// P2.3
func TestParse(t *testing.T) {
	for s, want := range map[string]api.Wide{"0": {}, "7": {Lo: 7}, "10": {Lo: 10}, "100200300": {Lo: 100200300}, "18446744073709551615": {Lo: 1<<64 - 1}, "18446744073709551616": {Hi: 1}, top: {Hi: 1<<64 - 1, Lo: 1<<64 - 1}} {
		if w, e := wide.Parse(s); w != want || e != api.OK {
			t.Error(s, w, e)
		}
	}
}

// P2.3: what no text is, however long it is.
func TestParseOfNoText(t *testing.T) {
	nines := strings.Repeat("9", 50)
	for _, s := range []string{
		"", " ", "-", "-1", "+1", "1 ", " 1", "1a", "a", "1/", "/1", "1:", ":1", "1.0", "1_0", "0x1", "1\n", "\x001", "1\x00", "\xff", "٣", "１",
		"00", "01", "007", "0" + top, strings.Repeat("0", 50), "0" + nines, nines + "a", nines + "-", "a" + nines, top + "/",
	} {
		if w, e := wide.Parse(s); w != (api.Wide{}) || e != api.ErrText {
			t.Errorf("%q: %v %v", s, w, e)
		}
	}
}

// P2.3: what is above 2^128 - 1.
func TestParseOfTooMuch(t *testing.T) {
	for _, s := range []string{
		"340282366920938463463374607431768211456", "340282366920938463463374607431768211460", "340282366920938463463374607431768211465",
		"340282366920938463481821351505477763071", "340282366920938463481821351505477763072", "350000000000000000000000000000000000000",
		"999999999999999999999999999999999999999", "1" + strings.Repeat("0", 39), strings.Repeat("9", 50), "1" + strings.Repeat("0", 5000),
	} {
		if w, e := wide.Parse(s); w != (api.Wide{}) || e != api.ErrOver {
			t.Errorf("%q: %v %v", s, w, e)
		}
	}
}

// P2.5
func TestParseInvertsText(t *testing.T) {
	for _, a := range wides() {
		s := wide.Text(a)
		w, e := wide.Parse(s)
		if w != a || e != api.OK {
			t.Error(a, s, w, e)
		}
		if again := wide.Text(w); again != s {
			t.Error(a, s, again)
		}
	}
}
