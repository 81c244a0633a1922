package ratio_test

import (
	"math/big"
	"strconv"
	"strings"
	"testing"

	"copse/api"
	"copse/ratio"
)

// P3.4
func TestText(t *testing.T) {
	for r, want := range map[api.Ratio]string{
		{Q: 1}: "0", {P: 5, Q: 1}: "5", {P: -5, Q: 1}: "-5", {P: 1, Q: 2}: "1/2", {P: -3, Q: 2}: "-3/2", {P: 10, Q: 7}: "10/7",
		{P: part, Q: 1}: "1073741824", {P: -part, Q: 1}: "-1073741824", {P: -1, Q: part}: "-1/1073741824", {P: part, Q: part - 1}: "1073741824/1073741823",
	} {
		if s := ratio.Text(r); s != want {
			t.Error(r, s)
		}
		if back, e := ratio.Parse(want); back != r || e != api.OK {
			t.Error(want, back, e)
		}
	}
	for _, r := range wrong() {
		if s := ratio.Text(r); s != "" {
			t.Error(r, s)
		}
	}
}

// P3.4
func TestParseInvertsText(t *testing.T) {
	for _, r := range valid() {
		if back, e := ratio.Parse(ratio.Text(r)); back != r || e != api.OK {
			t.Error(r, back, e)
		}
	}
}

// P3.4: no other text than that of a valid ratio, however long.
func TestParseOfNoText(t *testing.T) {
	texts := []string{
		"", " ", "-", "/", "-/", "1/", "/1", "/2", "-/2", "1/-", "1//2", "1/2/3", "1/2/", "/1/2", "--1", "-+1", "+1", "+1/2", "1/+2", "1/-2", "-1/-2", "1-", "1/2-",
		"01", "-01", "00", "1/02", "01/2", "-0", "-0/1", "0/1", "0/2", "1/1", "5/1", "-5/1", "1/0", "0/0", "2/4", "6/-4", "2/2", "-6/9",
		" 1", "1 ", "1 /2", "1/ 2", "1/2\n", "1\x00", "\x001/2", "1|2", "1.5", "1_0", "0x1", "1e3", "a", "1/a", "a/2", "\xff", "٣", "１/2", "1∕2",
		"1073741825", "-1073741825", "1/1073741825", "-1/1073741825", "1073741824/1073741824", "9223372036854775807", "-9223372036854775808", "18446744073709551617", "18446744073709551617/2", "1/18446744073709551618",
		"340282366920938463463374607431768211457", "1/340282366920938463463374607431768211458", strings.Repeat("1", 1000), "1/" + strings.Repeat("3", 1000), strings.Repeat("-", 1000), strings.Repeat("/", 1000), strings.Repeat("0", 1000) + "1",
	}
	for _, w := range wrong() {
		texts = append(texts, strconv.Itoa(w.P)+"/"+strconv.Itoa(w.Q))
	}
	for _, s := range texts {
		if r, e := ratio.Parse(s); r != (api.Ratio{}) || e != api.ErrRatio {
			t.Errorf("%q: %v %v", s, r, e)
		}
	}
}

// P3.4: of all short texts of these bytes, those are read that would be written.
func TestParseOfAllShortTexts(t *testing.T) {
	const longest, marks = 4, "0123-/"
	texts := map[string]api.Ratio{}
	for p := -999; p <= 9999; p++ {
		for q := 1; q <= 99; q++ {
			exact := big.NewRat(int64(p), int64(q))
			if exact.Denom().Int64() == int64(q) {
				texts[exact.RatString()] = api.Ratio{P: p, Q: q}
			}
		}
	}
	var check func(s string)
	check = func(s string) {
		want, wantE := texts[s], api.OK
		if want.Q == 0 {
			wantE = api.ErrRatio
		}
		if r, e := ratio.Parse(s); r != want || e != wantE {
			t.Errorf("%q: %v %v, not %v", s, r, e, want)
		}
		if len(s) < longest {
			for i := range marks {
				check(s + marks[i:i+1])
			}
		}
	}
	check("")
}
