package fault_test

import (
	"errors"
	"testing"

	"bedrock/api"
	"bedrock/fault"
)

func TestTold(t *testing.T) {
	for _, c := range []struct {
		r any
		e api.Errno
	}{
		{api.ErrShort, api.ErrShort},
		{api.ErrOver, api.ErrOver},
		{api.ErrForm, api.ErrForm},
		{int(api.ErrShort), api.ErrForm},
		{"a text", api.ErrForm},
		{errors.New("an error"), api.ErrForm},
		{nil, api.ErrForm},
	} {
		if e := fault.Told(c.r); e != c.e {
			t.Errorf("Told(%v): %d, not %d", c.r, e, c.e)
		}
	}
}

func TestTried(t *testing.T) {
	done := 0
	if e := fault.Tried(func() { done++ }); e != api.OK || done != 1 {
		t.Errorf("Tried of a step: %d, done %d times", e, done)
	}
	e := fault.Tried(func() {
		done++
		panic(api.ErrOver)
	})
	if e != api.ErrOver || done != 2 {
		t.Errorf("Tried of a step that gives up: %d, done %d times", e, done)
	}
	var none []int
	if e := fault.Tried(func() { none[done] = 0 }); e != api.ErrForm {
		t.Errorf("Tried of a step that fails: %d", e)
	}
}

func TestMust(t *testing.T) {
	for _, e := range []api.Errno{api.OK, api.ErrArg, api.ErrFull, -1} {
		if got := fault.Tried(func() { fault.Must(e) }); got != e {
			t.Errorf("Must(%d) gives up with %d", e, got)
		}
	}
}
