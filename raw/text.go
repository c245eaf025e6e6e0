package raw

import (
	"strconv"
	"strings"

	"bedrock/api"
	"bedrock/fault"
)

const maxDigits = 16 // of a number that Number takes: always an int

// Digits tells a number in digits.
func Digits(v int) string { return strconv.Itoa(v) }

// Number tells the number of digits.
func Number(s string) (v int, e api.Errno) {
	defer func() {
		if r := recover(); r != nil {
			v, e = 0, fault.Told(r)
		}
	}()
	if s == "0" {
		return 0, api.OK
	}
	digits, below := strings.CutPrefix(s, "-")
	v = natural(digits)
	if below {
		v = -v
	}
	return v, api.OK
}

// natural tells the number of digits without a sign; it is above 0.
func natural(digits string) int {
	if len(digits) < 1 || len(digits) > maxDigits || digits[0] == '0' {
		panic(api.ErrForm)
	}
	v := 0
	for i := range len(digits) {
		v = v*10 + decimal(digits[i])
	}
	return v
}

// plain tells whether a byte stands in quotes as one byte or two, not in digits.
func plain(c byte) bool { return c >= 32 && c <= 126 }

// Quote tells bytes in quotes.
func Quote(b string) string {
	const digits = "0123456789abcdef"
	q := []byte{'"'}
	for i := range len(b) {
		c := b[i]
		switch {
		case !plain(c):
			q = append(q, '\\', 'x', digits[c>>4], digits[c&15])
		case c == '"' || c == '\\':
			q = append(q, '\\', c)
		default:
			q = append(q, c)
		}
	}
	return string(append(q, '"'))
}

// Unquote tells the bytes in quotes at a text's beginning, and how long they are.
func Unquote(s string) (b string, size int, e api.Errno) {
	defer func() {
		if r := recover(); r != nil {
			b, size, e = "", 0, fault.Told(r)
		}
	}()
	r := reader{b: s}
	b = r.quoted()
	return b, r.at, api.OK
}
