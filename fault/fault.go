// Package fault tells with what a call gave up.
package fault

import "bedrock/api"

// Told is the Errno with which a step gave up. Nothing else is expected to be
// recovered; if it is, bytes that nobody could read are no such thing.
func Told(r any) api.Errno {
	e, ok := r.(api.Errno)
	if !ok {
		return api.ErrForm
	}
	return e
}
