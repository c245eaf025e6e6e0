package apart_test

import (
	"testing"

	"bedrock/apart"
	"bedrock/api"
	"bedrock/fault"
)

// gives does a step with a reader of some bytes, and tells with what it gives up and what is left.
func gives(b string, step func(r *apart.Reader)) (api.Errno, string) {
	r := apart.New(b, api.ErrCorrupt)
	e := fault.Tried(func() { step(r) })
	return e, r.Rest()
}

func TestTake(t *testing.T) {
	for _, c := range []struct {
		b         string
		n         int
		got, rest string
		e         api.Errno
	}{
		{"abc", 0, "", "abc", api.OK},
		{"abc", 2, "ab", "c", api.OK},
		{"abc", 3, "abc", "", api.OK},
		{"", 0, "", "", api.OK},
		{"abc", 4, "", "abc", api.ErrCorrupt},
		{"abc", -1, "", "abc", api.ErrCorrupt},
		{"", 1, "", "", api.ErrCorrupt},
		{"abc", -1 << 63, "", "abc", api.ErrCorrupt},
		{"abc", 1<<63 - 1, "", "abc", api.ErrCorrupt},
	} {
		got := ""
		e, rest := gives(c.b, func(r *apart.Reader) { got = r.Take(c.n) })
		if got != c.got || rest != c.rest || e != c.e {
			t.Errorf("Take(%d) of %q: %q, %q left, %d", c.n, c.b, got, rest, e)
		}
	}
}

func TestNumbers(t *testing.T) {
	for _, c := range []struct {
		b    string
		n    int
		rest string
		e    api.Errno
	}{
		{"\x00", 0, "", api.OK},
		{"\x7fx", 127, "x", api.OK},
		{"\xac\x02x", 300, "x", api.OK},
		{"", 0, "", api.ErrCorrupt},
		{"\x80", 0, "\x80", api.ErrCorrupt},
		{"\x80\x00", 0, "\x80\x00", api.ErrCorrupt},
		{"\xff\xff\xff\xff\xff\xff\xff\xff\x7f", 1<<63 - 1, "", api.OK},
	} {
		n := 0
		e, rest := gives(c.b, func(r *apart.Reader) { n = r.Number() })
		if n != c.n || e != c.e || e == api.OK && rest != c.rest {
			t.Errorf("Number of %x: %d, %x left, %d", c.b, n, rest, e)
		}
	}
	for _, c := range []struct {
		b       string
		size, n int
		rest    string
		e       api.Errno
	}{
		{"\x01\x02\x03", 2, 258, "\x03", api.OK},
		{"\x01\x02\x03", 3, 66051, "", api.OK},
		{"\x01", 2, 0, "", api.ErrCorrupt},
		{"\x01", 0, 0, "", api.ErrCorrupt},
		{"\x01", -1, 0, "", api.ErrCorrupt},
		{"\x00\x00\x00\x00\x00\x00\x00\x00", 8, 0, "", api.ErrCorrupt},
	} {
		n := 0
		e, rest := gives(c.b, func(r *apart.Reader) { n = r.Fixed(c.size) })
		if n != c.n || e != c.e || e == api.OK && rest != c.rest {
			t.Errorf("Fixed(%d) of %x: %d, %x left, %d", c.size, c.b, n, rest, e)
		}
	}
}

func TestText(t *testing.T) {
	for _, c := range []struct {
		b, got, rest string
		e            api.Errno
	}{
		{"\x00", "", "", api.OK},
		{"\x02abc", "ab", "c", api.OK},
		{"\x03ab", "", "", api.ErrCorrupt},
		{"", "", "", api.ErrCorrupt},
		{"\xff\xff\xff\xff\xff\xff\xff\xff\x7fa", "", "", api.ErrCorrupt},
	} {
		got := ""
		e, rest := gives(c.b, func(r *apart.Reader) { got = r.Text() })
		if got != c.got || e != c.e || e == api.OK && rest != c.rest {
			t.Errorf("Text of %x: %q, %x left, %d", c.b, got, rest, e)
		}
	}
}

// Each reader gives up with its own Errno.
func TestNeed(t *testing.T) {
	for _, e := range []api.Errno{api.ErrCorrupt, api.ErrForm} {
		r := apart.New("", e)
		if got := fault.Tried(func() { r.Need(true) }); got != api.OK {
			t.Errorf("what holds gives up with %d", got)
		}
		if got := fault.Tried(func() { r.Need(false) }); got != e {
			t.Errorf("what does not hold gives up with %d, not %d", got, e)
		}
	}
}
