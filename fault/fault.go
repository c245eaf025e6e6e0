// Package fault tells with what a call gave up.
package fault

import "bedrock/api"

// Told is the Errno with which a step gave up. Nothing else is expected to be
// recovered; if it is, bytes that nobody could read are no such thing.
func Told(r any) api.Errno {
	e, ok := r.(api.Errno)
	if !ok {
		return api.ErrForm
	}
	return e
}

// Tried does the steps of a call and tells with what one of them gave up.
func Tried(steps func()) (e api.Errno) {
	defer func() {
		if r := recover(); r != nil {
			e = Told(r)
		}
	}()
	steps()
	return api.OK
}

// Must gives up, if a step told an error.
func Must(e api.Errno) {
	if e != api.OK {
		panic(e)
	}
}
