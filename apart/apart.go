// Package apart takes bytes apart, from the first one on. A step that can't be
// done gives up by a panic with an Errno, which the call that asked for it
// recovers (package fault).
package apart

import (
	"bedrock/api"
	"bedrock/raw"
)

// Reader has what is not taken yet.
type Reader struct {
	rest string
	e    api.Errno // with what it gives up
}

// New makes a reader of some bytes that gives up with an Errno.
func New(b string, e api.Errno) *Reader { return &Reader{rest: b, e: e} }

// Need gives up, if something that has to hold does not.
func (r *Reader) Need(ok bool) {
	if !ok {
		panic(r.e)
	}
}

// Rest tells what is not taken yet.
func (r *Reader) Rest() string { return r.rest }

// Take takes so many bytes.
func (r *Reader) Take(n int) string {
	r.Need(n >= 0 && n <= len(r.rest))
	b := r.rest[:n]
	r.rest = r.rest[n:]
	return b
}

// Fixed takes a number that raw.Put laid in so many bytes.
func (r *Reader) Fixed(n int) int {
	v, e := raw.Get(r.Take(n))
	r.Need(e == api.OK)
	return v
}

// Number takes a number that raw.PutVar laid.
func (r *Reader) Number() int {
	v, size, e := raw.GetVar(r.rest)
	r.Need(e == api.OK)
	r.Take(size)
	return v
}

// Text takes bytes with their number ahead of them.
func (r *Reader) Text() string { return r.Take(r.Number()) }
