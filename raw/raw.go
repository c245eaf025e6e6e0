// Package raw has numbers in bytes and in digits, a check sum, texts in quotes.
package raw

import (
	"strings"

	"bedrock/api"
	"bedrock/fault"
)

const (
	maxFixed    = 7   // bytes of Put: what they hold is never as great as an int's sign
	maxVariable = 9   // bytes of PutVar: an int from 0 on has 63 bits, nine groups of seven
	more        = 128 // added to a byte of PutVar's behind which another one comes
)

// Put tells a number as so many bytes.
func Put(v, n int) (string, api.Errno) {
	if n < 1 || n > maxFixed || v < 0 || v>>(8*n) != 0 {
		return "", api.ErrArg
	}
	b := make([]byte, n)
	for i := range b {
		b[i] = byte(v >> (8 * (n - 1 - i)))
	}
	return string(b), api.OK
}

// Get tells the number of some bytes.
func Get(b string) (int, api.Errno) {
	if len(b) < 1 || len(b) > maxFixed {
		return 0, api.ErrArg
	}
	v := 0
	for i := range len(b) {
		v = v<<8 | int(b[i])
	}
	return v, api.OK
}

// PutVar tells a number in as few bytes as can be.
func PutVar(v int) string {
	if v < 0 {
		return ""
	}
	var b []byte
	for v >= more {
		b = append(b, byte(v)|more)
		v >>= 7
	}
	return string(append(b, byte(v)))
}

// GetVar tells the number at the beginning of some bytes, and its length.
func GetVar(b string) (v, size int, e api.Errno) {
	defer func() {
		if r := recover(); r != nil {
			v, size, e = 0, 0, fault.Told(r)
		}
	}()
	r := reader{b: b}
	v = r.variable()
	return v, r.at, api.OK
}

// Compare tells the order of bytes.
func Compare(a, b string) int { return strings.Compare(a, b) }
