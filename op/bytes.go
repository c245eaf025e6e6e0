package op

import (
	"bedrock/api"
	"bedrock/fault"
	"bedrock/real"
)

const (
	size = 8 // bytes of a number, a whole one or not

	// What stands ahead of what ActSet sets.
	ofNum  = "n"
	ofText = "t"
)

// Put tells an act as bytes.
func Put(a api.Act) (string, api.Errno) {
	if !right(a) {
		return "", api.ErrKind
	}
	b := []byte{byte(a.Kind)}
	switch a.Kind {
	case api.ActSet:
		b = append(b, setting(a)...)
	case api.ActAdd:
		b = append(b, whole(a.Int)...)
	case api.ActMax, api.ActMin:
		b = append(b, real.Put(a.Num)...)
	}
	return string(b), api.OK
}

// setting tells what ActSet sets as bytes.
func setting(a api.Act) string {
	if a.Text == "" {
		return ofNum + real.Put(a.Num)
	}
	return ofText + a.Text
}

// whole tells any int as bytes, two's complement.
func whole(n int) []byte {
	b := make([]byte, size)
	for i := range b {
		b[i] = byte(n >> (8 * (size - 1 - i)))
	}
	return b
}

// Get tells the act of some bytes.
func Get(b string) (a api.Act, e api.Errno) {
	defer func() {
		if r := recover(); r != nil {
			a, e = api.Act{}, fault.Told(r)
		}
	}()
	r := reader{rest: b}
	return r.act(), api.OK
}

// reader takes bytes apart from the first one on. A step that can't be done
// gives up by a panic with an Errno, which Get recovers.
type reader struct{ rest string }

// act takes all that is left as an act.
func (r *reader) act() api.Act {
	a := api.Act{Kind: int(r.next())}
	switch a.Kind {
	case api.ActSet:
		r.setting(&a)
	case api.ActAdd:
		a.Int = r.whole()
	case api.ActMax, api.ActMin:
		a.Num = r.num()
	}
	if r.rest != "" || !right(a) {
		panic(api.ErrForm)
	}
	return a
}

// setting takes what ActSet sets.
func (r *reader) setting(a *api.Act) {
	switch r.take(len(ofNum)) {
	case ofNum:
		a.Num = r.num()
	case ofText:
		a.Text = r.text()
	default:
		panic(api.ErrForm)
	}
}

// text takes all that is left; of an empty text Put writes the number.
func (r *reader) text() string {
	if r.rest == "" {
		panic(api.ErrForm)
	}
	return r.take(len(r.rest))
}

// whole takes an int.
func (r *reader) whole() int {
	n := 0
	for range size {
		n = n<<8 | int(r.next())
	}
	return n
}

// num takes a number.
func (r *reader) num() float64 {
	f, e := real.Get(r.take(size))
	if e != api.OK {
		panic(e)
	}
	return f
}

// next takes a byte.
func (r *reader) next() byte { return r.take(1)[0] }

// take takes so many bytes.
func (r *reader) take(n int) string {
	if len(r.rest) < n {
		panic(api.ErrForm)
	}
	b := r.rest[:n]
	r.rest = r.rest[n:]
	return b
}
