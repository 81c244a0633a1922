package wide

import "copse/api"

// mostDigits is how many digits 2^128 - 1 has: no longer text needs to be read.
const mostDigits = 39

// Text is the decimal digits of a.
func Text(a api.Wide) string {
	var digits [mostDigits]byte
	first := mostDigits - 1
	for {
		rest, digit, _ := Div(a, 10)
		digits[first] = '0' + byte(digit)
		if rest == Of(0) {
			return string(digits[first:])
		}
		a = rest
		first--
	}
}

// Parse is the number whose text s is; ErrText if s is no number's text, ErrOver if its number is above 2^128 - 1.
func Parse(s string) (api.Wide, api.Errno) {
	if !isText(s) {
		return api.Wide{}, api.ErrText
	}
	if len(s) > mostDigits {
		return api.Wide{}, api.ErrOver
	}
	var a api.Wide
	for i := range len(s) {
		var e api.Errno
		if a, e = shift(a, uint64(s[i]-'0')); e != api.OK {
			return api.Wide{}, e
		}
	}
	return a, api.OK
}

func isText(s string) bool {
	if s == "" || len(s) > 1 && s[0] == '0' {
		return false
	}
	for i := range len(s) {
		if s[i] < '0' || s[i] > '9' {
			return false
		}
	}
	return true
}

// shift puts one digit more at the end of a.
func shift(a api.Wide, digit uint64) (api.Wide, api.Errno) {
	low, high := Mul(a.Lo, 10), Mul(a.Hi, 10)
	if high.Hi != 0 {
		return api.Wide{}, api.ErrOver
	}
	tens, e := Add(low, api.Wide{Hi: high.Lo})
	if e != api.OK {
		return api.Wide{}, e
	}
	return Add(tens, Of(digit))
}
