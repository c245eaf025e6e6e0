package real

import (
	"math"
	"math/bits"
	"strings"

	"bedrock/api"
	"bedrock/fault"
	"bedrock/raw"
)

const (
	precision = 53                   // bits of a number at most
	first     = 1 << (precision - 1) // the first of so many bits: it is not kept
	least     = -1074                // the power of 2 that a number's last bit stands for is never below it
	bound     = 1024                 // all numbers but infinity are below 2 to this power
	maxPower  = 5                    // bytes of a power in a text
)

// Text tells a number as a text.
func Text(f float64) string {
	switch {
	case isNan(f):
		return "nan"
	case signed(f):
		return "-" + unsigned(-f)
	}
	return unsigned(f)
}

// unsigned tells the text of a number without a sign.
func unsigned(f float64) string {
	switch {
	case f == 0:
		return "0"
	case f > math.MaxFloat64:
		return "inf"
	}
	m, e := split(f)
	if e >= 0 && bits.Len64(m)+e <= precision {
		return raw.Digits(int(m << e))
	}
	return raw.Digits(int(m)) + "p" + raw.Digits(e)
}

// split tells the odd number and the power of 2 whose product a number above 0 is.
func split(f float64) (uint64, int) {
	x := math.Float64bits(f)
	m, e := x%first, least
	// All but the least numbers have one bit more than they keep.
	if power := int(x / first); power > 0 {
		m, e = m+first, least+power-1
	}
	return odd(m, e)
}

// odd takes all twos out of m into the power; m is not 0.
func odd(m uint64, e int) (uint64, int) {
	twos := bits.TrailingZeros64(m)
	return m >> twos, e + twos
}

// Parse tells the number of a text.
func Parse(s string) (f float64, e api.Errno) {
	defer func() {
		if r := recover(); r != nil {
			f, e = 0, fault.Told(r)
		}
	}()
	switch s {
	case "nan":
		return math.NaN(), api.OK
	case "inf":
		return math.Inf(1), api.OK
	case "-inf":
		return math.Inf(-1), api.OK
	}
	digits, below := strings.CutPrefix(s, "-")
	f = join(product(digits))
	if below {
		f = -f
	}
	return f, api.OK
}

// product takes apart digits and, perhaps, a power of 2 behind them. The whole
// text is looked at here, ahead of how great the number is.
func product(s string) (uint64, int) {
	digits, power, found := strings.Cut(s, "p")
	if strings.HasPrefix(digits, "-") || len(power) > maxPower {
		panic(api.ErrForm)
	}
	m, e := number(digits), 0
	if found {
		e = number(power)
	}
	return uint64(m), e
}

// number tells the number of digits.
func number(s string) int {
	v, e := raw.Number(s)
	if e != api.OK {
		panic(e)
	}
	return v
}

// join tells the number that m times 2 to the power e is, if there is one.
func join(m uint64, e int) float64 {
	if m >= 1<<precision {
		panic(api.ErrOver)
	}
	if m == 0 {
		return 0
	}
	m, e = odd(m, e)
	length := bits.Len64(m)
	if e < least || length+e > bound {
		panic(api.ErrOver)
	}
	// As far to the left as there is room. The first of 53 bits, added to the power
	// instead of being kept, makes that one more: so it is kept of all but the least numbers.
	left := min(precision-length, e-least)
	return math.Float64frombits(uint64(e-left-least)*first + m<<left)
}
