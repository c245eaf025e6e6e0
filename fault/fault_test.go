package fault_test

import (
	"errors"
	"testing"

	"bedrock/api"
	"bedrock/fault"
)

func TestTold(t *testing.T) {
	for _, c := range []struct {
		r any
		e api.Errno
	}{
		{api.ErrShort, api.ErrShort},
		{api.ErrOver, api.ErrOver},
		{api.ErrForm, api.ErrForm},
		{int(api.ErrShort), api.ErrForm},
		{"a text", api.ErrForm},
		{errors.New("an error"), api.ErrForm},
		{nil, api.ErrForm},
	} {
		if e := fault.Told(c.r); e != c.e {
			t.Errorf("Told(%v): %d, not %d", c.r, e, c.e)
		}
	}
}
