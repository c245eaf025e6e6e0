package vec

import (
	"strings"

	"bedrock/api"
	"bedrock/fault"
	"bedrock/raw"
)

const (
	countSize = 1 // bytes that tell how many times there are
	timeSize  = 6 // bytes of a time: they hold all below MaxTime, and no other ones
)

// Put tells a vector as bytes.
func Put(v api.Vec) (string, api.Errno) {
	if !Valid(v) {
		return "", api.ErrArg
	}
	var b strings.Builder
	b.WriteByte(byte(len(v)))
	for _, t := range v {
		s, _ := raw.Put(t, timeSize) // fits: the time is valid
		b.WriteString(s)
	}
	return b.String(), api.OK
}

// Get tells the vector at the beginning of some bytes, and its length.
func Get(b string) (v api.Vec, size int, e api.Errno) {
	defer func() {
		if r := recover(); r != nil {
			v, size, e = nil, 0, fault.Told(r)
		}
	}()
	n, rest := next(b, countSize)
	if !isCount(n) {
		panic(api.ErrForm)
	}
	v = make(api.Vec, n)
	for i := range v {
		v[i], rest = next(rest, timeSize)
	}
	return v, len(b) - len(rest), api.OK
}

// next takes a number of so many bytes off; it gives up by a panic with an
// Errno, which Get recovers.
func next(b string, size int) (int, string) {
	if len(b) < size {
		panic(api.ErrShort)
	}
	v, _ := raw.Get(b[:size]) // takes as many: a count or a time
	return v, b[size:]
}
