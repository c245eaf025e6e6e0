package raw

import "bedrock/api"

// reader goes through bytes from the first one on. A step that can't be done
// gives up by a panic with an Errno, which the exported call recovers.
type reader struct {
	b  string
	at int
}

// next takes a byte; e is told where there is none.
func (r *reader) next(e api.Errno) byte {
	if r.at == len(r.b) {
		panic(e)
	}
	c := r.b[r.at]
	r.at++
	return c
}

// variable takes a number as PutVar lays it.
func (r *reader) variable() int {
	v := 0
	// Nine groups of seven bits are below 2^63, so only the count is looked at.
	for i := range maxVariable {
		c := r.next(api.ErrShort)
		v |= int(c&^more) << (7 * i)
		if c >= more {
			continue
		}
		if c == 0 && i > 0 {
			panic(api.ErrForm)
		}
		return v
	}
	panic(api.ErrForm)
}

// quoted takes a text as Quote writes it.
func (r *reader) quoted() string {
	if r.next(api.ErrForm) != '"' {
		panic(api.ErrForm)
	}
	var b []byte
	for {
		c := r.next(api.ErrForm)
		switch {
		case c == '"':
			return string(b)
		case c == '\\':
			c = r.escaped()
		case !plain(c):
			panic(api.ErrForm)
		}
		b = append(b, c)
	}
}

// escaped takes what stands behind a backslash.
func (r *reader) escaped() byte {
	c := r.next(api.ErrForm)
	switch c {
	case '"', '\\':
		return c
	case 'x':
		high := hexadecimal(r.next(api.ErrForm))
		return high<<4 | hexadecimal(r.next(api.ErrForm))
	}
	panic(api.ErrForm)
}

// decimal tells the worth of a decimal digit.
func decimal(c byte) int {
	if c < '0' || c > '9' {
		panic(api.ErrForm)
	}
	return int(c - '0')
}

// hexadecimal tells the worth of a digit of sixteen, small or great.
func hexadecimal(c byte) byte {
	switch {
	case c >= 'a' && c <= 'f':
		return c - 'a' + 10
	case c >= 'A' && c <= 'F':
		return c - 'A' + 10
	}
	return byte(decimal(c))
}
