package ikey

import (
	"strings"

	"bedrock/api"
	"bedrock/fault"
	"bedrock/raw"
	"bedrock/vec"
)

// Get tells the version of such bytes.
func Get(b string) (v api.Version, e api.Errno) {
	defer func() {
		if r := recover(); r != nil {
			v, e = api.Version{}, fault.Told(r)
		}
	}()
	r := reader{rest: b}
	return r.version(), api.OK
}

// Key tells the key of such bytes.
func Key(b string) (string, api.Errno) {
	v, e := Get(b)
	return v.Key, e
}

// reader takes bytes apart from the first one on. A step that can't be done
// gives up by a panic with an Errno, which Get recovers.
type reader struct{ rest string }

// version takes all that is left as a version.
func (r *reader) version() api.Version {
	v := api.Version{Key: r.key()}
	time := lastTime - r.number(timeSize)
	v.Origin = lastOrigin - r.number(originSize)
	v.Tx = lastTx - r.number(txSize)
	v.At = r.vector()
	// The time stands in the vector, too: Put writes both alike.
	if r.rest != "" || !Valid(v) || timeOf(v) != time {
		panic(api.ErrForm)
	}
	return v
}

// key takes bytes as Head writes them.
func (r *reader) key() string {
	var key strings.Builder
	for {
		at := strings.IndexByte(r.rest, 0)
		if at < 0 {
			panic(api.ErrForm)
		}
		key.WriteString(r.take(at))
		switch r.take(len(end)) {
		case end:
			return key.String()
		case nought:
			key.WriteByte(0)
		default:
			panic(api.ErrForm)
		}
	}
}

// number takes a number of so many bytes.
func (r *reader) number(size int) int {
	v, _ := raw.Get(r.take(size)) // takes as many
	return v
}

// vector takes a vector.
func (r *reader) vector() api.Vec {
	v, size, e := vec.Get(r.rest)
	// Bytes that end too early are no version either: only that is told.
	if e != api.OK {
		panic(api.ErrForm)
	}
	r.take(size)
	return v
}

// take takes so many bytes.
func (r *reader) take(size int) string {
	if len(r.rest) < size {
		panic(api.ErrForm)
	}
	b := r.rest[:size]
	r.rest = r.rest[size:]
	return b
}
