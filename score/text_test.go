package score_test

import (
	"strconv"
	"strings"
	"testing"

	"copse/api"
	"copse/score"
)

// P13.4
func TestText(t *testing.T) {
	for s, want := range map[api.Score]string{{P: 0, Q: 1}: "0/1", {P: 1, Q: 1}: "1/1", {P: 3, Q: 2}: "3/2", {P: 1, Q: 16}: "1/16", {P: 10, Q: 7}: "10/7", {P: 100, Q: 11}: "100/11", {P: sum, Q: 1}: "274877906944/1", {P: sum - 1, Q: 16}: "274877906943/16"} {
		if text := score.Text(s); text != want {
			t.Error(s, text)
		}
		if back, e := score.Parse(want); back != s || e != api.OK {
			t.Error(want, back, e)
		}
	}
	for _, s := range wrong() {
		if text := score.Text(s); text != "" {
			t.Error(s, text)
		}
	}
}

// P13.5
func TestParseInvertsText(t *testing.T) {
	for _, s := range valid() {
		if back, e := score.Parse(score.Text(s)); back != s || e != api.OK {
			t.Error(s, back, e)
		}
	}
}

// P13.4: no other text than that of a valid score, however long.
func TestParseOfNoText(t *testing.T) {
	texts := []string{
		"", " ", "/", "-", "0", "1", "3", "1/", "/1", "/2", "0/", "/0", "1//2", "1/2/3", "1/2/", "/1/2", "3/2/1", "//", "1/1/1",
		"-3/2", "3/-2", "-3/-2", "+3/2", "3/+2", "-0/1", "+0/1", "0/+1", "03/2", "3/02", "00/1", "0/01", "0/00", "00/01", "3/2 ", " 3/2", "3 /2", "3/ 2", "3/2\n", "3/2\x00", "\x003/2", "3|2", "3.0/2", "1_0/1", "1/1_0", "0x1/1", "1e1/1", "a/1", "1/a", "a/a", "٣/2", "３/2", "3∕2", "\xff/1",
		"0/2", "0/0", "1/0", "6/4", "2/2", "16/16", "1/17", "17/19", "1/100", "274877906945/1", "274877906944/2", "274877906945/16", "9223372036854775807/1", "9223372036854775808/1", "-9223372036854775808/1", "1/9223372036854775808", "18446744073709551619/2", "3/18446744073709551618", "340282366920938463463374607431768211459/2", "3/340282366920938463463374607431768211458",
		strings.Repeat("1", 100000), strings.Repeat("1", 1000) + "/1", "1/" + strings.Repeat("1", 1000), strings.Repeat("/", 1000), strings.Repeat("0", 1000) + "/1", strings.Repeat("3/2", 1000),
	}
	for _, w := range wrong() {
		texts = append(texts, strconv.Itoa(w.P)+"/"+strconv.Itoa(w.Q))
	}
	for _, s := range texts {
		if got, e := score.Parse(s); got != (api.Score{}) || e != api.ErrText {
			t.Errorf("%.50q: %v %v", s, got, e)
		}
	}
}

// P13.4: of all short texts of these bytes, those are read that would be written.
func TestParseOfAllShortTexts(t *testing.T) {
	const longest, marks = 6, "0126-+/ "
	texts := map[string]api.Score{}
	for q := 1; q <= 16; q++ {
		for p := range 10000 {
			if s := (api.Score{P: p, Q: q}); exact(s).Denom().Int64() == int64(q) {
				texts[strconv.Itoa(p)+"/"+strconv.Itoa(q)] = s
			}
		}
	}
	var check func(s string)
	check = func(s string) {
		want, wantE := texts[s], api.OK
		if want.Q == 0 {
			wantE = api.ErrText
		}
		if got, e := score.Parse(s); got != want || e != wantE {
			t.Errorf("%q: %v %v, not %v", s, got, e, want)
		}
		if len(s) < longest {
			for i := range marks {
				check(s + marks[i:i+1])
			}
		}
	}
	check("")
}
