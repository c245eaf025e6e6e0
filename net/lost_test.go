package net

import (
	"math"
	"testing"

	"bedrock/api"
)

// P803: it can't be waited for, so it is told to the net.
func TestLostHasAnEnd(t *testing.T) {
	w := New(2)
	w.lost = math.MaxInt - 1
	w.Cut(0, 1, true)
	for range 3 {
		if e := w.Send(0, 1, "a"); e != api.OK || w.Lost() != math.MaxInt {
			t.Errorf("Send: %d, %d lost", e, w.Lost())
		}
	}
	w.Send(1, 0, "b")
	if e := w.Drop(0); e != api.OK || w.Lost() != math.MaxInt || w.Len() != 0 {
		t.Errorf("Drop: %d, %d lost, %d on their way", e, w.Lost(), w.Len())
	}
}
