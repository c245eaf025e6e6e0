package net_test

import (
	"math/rand"
	"slices"
	"strconv"
	"strings"
	"testing"

	"bedrock/api"
	"bedrock/net"
)

const (
	most  = 1<<63 - 1
	least = -1 << 63
)

// message is one on its way.
type message struct {
	from, to int
	data     string
}

// waits tells all that are on their way, in order.
func waits(t *testing.T, w *net.Net) []message {
	t.Helper()
	var l []message
	for i := range w.Len() {
		from, to, data, e := w.Peek(i)
		if e != api.OK {
			t.Errorf("Peek(%d) of %d: %d", i, w.Len(), e)
		}
		l = append(l, message{from, to, data})
	}
	return l
}

// has holds what is on its way, and how many were lost, against what is wanted.
func has(t *testing.T, what string, w *net.Net, lost int, want ...message) {
	t.Helper()
	if got := waits(t, w); !slices.Equal(got, want) {
		t.Errorf("%s: on their way are %v, not %v", what, got, want)
	}
	if w.Lost() != lost {
		t.Errorf("%s: %d lost, not %d", what, w.Lost(), lost)
	}
}

// answers holds the Errnos of calls against those that are wanted.
func answers(t *testing.T, what string, got []api.Errno, want ...api.Errno) {
	t.Helper()
	if !slices.Equal(got, want) {
		t.Errorf("%s: %d, not %d", what, got, want)
	}
}

type calls = []api.Errno

// P801
func TestNew(t *testing.T) {
	for n := -3; n <= 12; n++ {
		w := net.New(n)
		if (w != nil) != (n >= 1 && n <= 8) {
			t.Errorf("New(%d): %v", n, w)
		}
		if w == nil {
			continue
		}
		has(t, "New", w, 0)
		for a := -2; a <= 12; a++ {
			for b := -2; b <= 12; b++ {
				if w.IsCut(a, b) {
					t.Errorf("New(%d): from %d to %d is cut", n, a, b)
				}
				want := api.ErrArg
				if a >= 0 && a < n && b >= 0 && b < n && a != b {
					want = api.OK
				}
				answers(t, strconv.Itoa(n), calls{w.Send(a, b, "x"), w.Cut(a, b, false)}, want, want)
			}
		}
		if w.Len() != n*(n-1) || w.Lost() != 0 {
			t.Errorf("New(%d): %d on their way, %d lost", n, w.Len(), w.Lost())
		}
	}
	for _, n := range []int{most, least} {
		if net.New(n) != nil {
			t.Errorf("New(%d)", n)
		}
	}
}

// P801
func TestSend(t *testing.T) {
	w := net.New(3)
	long := strings.Repeat("\xff", 1<<16)
	answers(t, "Send", calls{w.Send(0, 1, "a"), w.Send(2, 0, ""), w.Send(0, 1, "a"), w.Send(1, 0, "\x00é"), w.Send(1, 2, long)}, 0, 0, 0, 0, 0)
	want := []message{{0, 1, "a"}, {2, 0, ""}, {0, 1, "a"}, {1, 0, "\x00é"}, {1, 2, long}}
	has(t, "Send", w, 0, want...)
	answers(t, "refused", calls{w.Send(0, 0, "x"), w.Send(0, 3, "x"), w.Send(3, 0, "x"), w.Send(0, -1, "x"), w.Send(-1, 0, "x"), w.Send(most, least, "x"), w.Send(-1, -1, "x"), w.Send(0, 1, long+"x"), w.Send(1, 1, long+"x"), w.Send(0, 3, long+"x")},
		api.ErrArg, api.ErrArg, api.ErrArg, api.ErrArg, api.ErrArg, api.ErrArg, api.ErrArg, api.ErrLong, api.ErrArg, api.ErrArg)
	has(t, "refused", w, 0, want...)
}

// P801: what is refused is refused on a way that is cut and with no room, too, and is not lost.
func TestSendLoses(t *testing.T) {
	w := net.New(3)
	long := strings.Repeat("x", 1<<16+1)
	answers(t, "cut", calls{w.Cut(0, 1, true), w.Send(0, 1, "a"), w.Send(1, 0, "b"), w.Send(0, 2, "c"), w.Send(0, 1, long), w.Send(0, 0, "x")}, 0, 0, 0, 0, api.ErrLong, api.ErrArg)
	has(t, "cut", w, 1, message{1, 0, "b"}, message{0, 2, "c"})
	for i := w.Len(); i < 400; i++ {
		answers(t, "filling", calls{w.Send(2, 1, strconv.Itoa(i))}, 0)
	}
	if w.Len() != 400 || w.Lost() != 1 {
		t.Errorf("full: %d on their way, %d lost", w.Len(), w.Lost())
	}
	before := waits(t, w)
	answers(t, "full", calls{w.Send(2, 1, "x"), w.Send(0, 1, "x"), w.Send(2, 1, long), w.Send(3, 1, "x"), w.Send(1, 2, "")}, 0, 0, api.ErrLong, api.ErrArg, 0)
	has(t, "full", w, 4, before...)
	answers(t, "room again", calls{w.Drop(0), w.Send(1, 2, "y"), w.Send(1, 2, "z")}, 0, 0, 0)
	has(t, "room again", w, 6, append(before[1:], message{1, 2, "y"})...)
}

// three makes a net with three messages on their way.
func three() *net.Net {
	w := net.New(3)
	w.Send(0, 1, "a")
	w.Send(1, 2, "b")
	w.Send(2, 0, "c")
	return w
}

// P802
func TestPeekAndDeliver(t *testing.T) {
	a, b, c := message{0, 1, "a"}, message{1, 2, "b"}, message{2, 0, "c"}
	all := []message{a, b, c}
	for i, left := range [][]message{{b, c}, {a, c}, {a, b}} {
		w := three()
		for range 2 {
			from, to, data, e := w.Peek(i)
			if (message{from, to, data}) != all[i] || e != api.OK {
				t.Errorf("Peek(%d): %d, %d, %q, %d", i, from, to, data, e)
			}
		}
		has(t, "Peek", w, 0, all...)
		from, to, data, e := w.Deliver(i)
		if (message{from, to, data}) != all[i] || e != api.OK {
			t.Errorf("Deliver(%d): %d, %d, %q, %d", i, from, to, data, e)
		}
		has(t, "Deliver", w, 0, left...)
		w.Send(0, 2, "d")
		has(t, "Deliver and Send", w, 0, append(left, message{0, 2, "d"})...)
	}
}

// P802
func TestNumbersThatAreNotThere(t *testing.T) {
	for _, c := range []struct {
		w    *net.Net
		nums []int
	}{
		{three(), []int{-1, 3, 4, most, least}},
		{net.New(1), []int{-1, 0, 1, most, least}},
	} {
		before := waits(t, c.w)
		for _, i := range c.nums {
			from, to, data, e := c.w.Peek(i)
			if from != 0 || to != 0 || data != "" || e != api.ErrIndex {
				t.Errorf("Peek(%d): %d, %d, %q, %d", i, from, to, data, e)
			}
			from, to, data, e = c.w.Deliver(i)
			if from != 0 || to != 0 || data != "" || e != api.ErrIndex {
				t.Errorf("Deliver(%d): %d, %d, %q, %d", i, from, to, data, e)
			}
			answers(t, "not there", calls{c.w.Drop(i), c.w.Twice(i)}, api.ErrIndex, api.ErrIndex)
		}
		has(t, "not there", c.w, 0, before...)
	}
}

// P802
func TestDrop(t *testing.T) {
	a, b, c := message{0, 1, "a"}, message{1, 2, "b"}, message{2, 0, "c"}
	w := three()
	answers(t, "Drop", calls{w.Drop(1)}, 0)
	has(t, "Drop", w, 1, a, c)
	answers(t, "Drop", calls{w.Send(1, 2, "b"), w.Drop(0)}, 0, 0)
	has(t, "Drop", w, 2, c, b)
	answers(t, "Drop", calls{w.Drop(1), w.Drop(0), w.Drop(0)}, 0, 0, api.ErrIndex)
	has(t, "Drop", w, 4)
}

// P802
func TestTwice(t *testing.T) {
	a, b, c := message{0, 1, "a"}, message{1, 2, "b"}, message{2, 0, "c"}
	w := three()
	answers(t, "Twice", calls{w.Twice(1), w.Twice(3), w.Twice(0)}, 0, 0, 0)
	has(t, "Twice", w, 0, a, b, c, b, b, a)
	answers(t, "each by itself", calls{w.Drop(1), w.Cut(1, 2, true), w.Twice(2)}, 0, 0, 0)
	has(t, "each by itself", w, 1, a, c, b, b, a, b)
	for w.Len() < 399 {
		w.Send(0, 1, "m")
	}
	answers(t, "the last room", calls{w.Twice(0), w.Twice(0), w.Twice(399), w.Twice(400), w.Twice(-1)}, 0, api.ErrFull, api.ErrFull, api.ErrIndex, api.ErrIndex)
	if w.Len() != 400 || w.Lost() != 1 {
		t.Errorf("full: %d on their way, %d lost", w.Len(), w.Lost())
	}
	w.Deliver(0)
	answers(t, "room again", calls{w.Twice(0), w.Twice(0)}, 0, api.ErrFull)
}

// P803
func TestCut(t *testing.T) {
	for a := range 3 {
		for b := range 3 {
			if a == b {
				continue
			}
			w := three()
			for range 2 {
				answers(t, "Cut", calls{w.Cut(a, b, true)}, 0)
				for x := -1; x < 4; x++ {
					for y := -1; y < 4; y++ {
						if w.IsCut(x, y) != (x == a && y == b) {
							t.Errorf("Cut(%d, %d): IsCut(%d, %d) is %v", a, b, x, y, w.IsCut(x, y))
						}
					}
				}
			}
			has(t, "what is on its way stays", w, 0, message{0, 1, "a"}, message{1, 2, "b"}, message{2, 0, "c"})
			answers(t, "another way", calls{w.Cut(b, a, true), w.Cut(b, a, false), w.Send(a, b, "x"), w.Send(b, a, "y")}, 0, 0, 0, 0)
			has(t, "cut", w, 1, message{0, 1, "a"}, message{1, 2, "b"}, message{2, 0, "c"}, message{b, a, "y"})
			for range 2 {
				answers(t, "mended", calls{w.Cut(a, b, false)}, 0)
				if w.IsCut(a, b) || w.IsCut(b, a) {
					t.Errorf("from %d to %d is cut still", a, b)
				}
			}
			answers(t, "mended", calls{w.Send(a, b, "z")}, 0)
			has(t, "mended", w, 1, message{0, 1, "a"}, message{1, 2, "b"}, message{2, 0, "c"}, message{b, a, "y"}, message{a, b, "z"})
		}
	}
}

// P803
func TestCutIsRefused(t *testing.T) {
	w := net.New(3)
	for _, c := range [][2]int{{0, 0}, {2, 2}, {0, 3}, {3, 0}, {-1, 0}, {0, -1}, {3, 3}, {most, 0}, {0, least}} {
		answers(t, "refused", calls{w.Cut(c[0], c[1], true), w.Cut(c[0], c[1], false)}, api.ErrArg, api.ErrArg)
		if w.IsCut(c[0], c[1]) {
			t.Errorf("from %d to %d is cut", c[0], c[1])
		}
	}
	answers(t, "all others stand", calls{w.Send(0, 1, ""), w.Send(1, 0, ""), w.Send(0, 2, ""), w.Send(2, 0, ""), w.Send(1, 2, ""), w.Send(2, 1, "")}, 0, 0, 0, 0, 0, 0)
	if w.Len() != 6 {
		t.Errorf("%d on their way", w.Len())
	}
}

// P804
func TestNoNet(t *testing.T) {
	var none *net.Net
	for _, w := range []*net.Net{none, {}} {
		for range 2 {
			for _, i := range []int{-1, 0, 1, most} {
				from, to, data, e := w.Peek(i)
				if from != 0 || to != 0 || data != "" || e != api.ErrArg {
					t.Errorf("Peek(%d): %d, %d, %q, %d", i, from, to, data, e)
				}
				from, to, data, e = w.Deliver(i)
				if from != 0 || to != 0 || data != "" || e != api.ErrArg {
					t.Errorf("Deliver(%d): %d, %d, %q, %d", i, from, to, data, e)
				}
				answers(t, "no net", calls{w.Drop(i), w.Twice(i)}, api.ErrArg, api.ErrArg)
			}
			answers(t, "no net", calls{w.Send(0, 1, "a"), w.Send(0, 0, "a"), w.Send(0, 1, strings.Repeat("x", 1<<16+1)), w.Cut(0, 1, true), w.Cut(0, 1, false)}, api.ErrArg, api.ErrArg, api.ErrArg, api.ErrArg, api.ErrArg)
			if w.Len() != 0 || w.Lost() != 0 || w.IsCut(0, 1) || w.IsCut(0, 0) {
				t.Errorf("no net has something")
			}
		}
	}
}

// P805, and P801 to P803 all together: each message, by its data, is as often somewhere as it was sent and made twice.
func TestEachMessageIsSomewhere(t *testing.T) {
	for seed := range int64(60) {
		r := rand.New(rand.NewSource(seed))
		w, sent := net.New(4), 0
		var queue []message
		made, gone, lost := map[string]int{}, map[string]int{}, 0
		cut := map[[2]int]bool{}
		for range 3000 {
			a, b, i := r.Intn(4), r.Intn(4), r.Intn(max(1, len(queue)))
			var got, want api.Errno
			there := i < len(queue)
			if !there {
				want = api.ErrIndex
			}
			switch k := r.Intn(20); {
			case k < 11-int(seed%3):
				m := message{a, (a + 1 + r.Intn(3)) % 4, strconv.Itoa(sent)}
				sent++
				got, want = w.Send(m.from, m.to, m.data), api.OK
				made[m.data]++
				if cut[[2]int{m.from, m.to}] || len(queue) == 400 {
					gone[m.data]++
					lost++
				} else {
					queue = append(queue, m)
				}
			case k < 13:
				from, to, data, e := w.Deliver(i)
				got = e
				if there {
					if (message{from, to, data}) != queue[i] {
						t.Fatalf("seed %d: Deliver(%d) is not %v", seed, i, queue[i])
					}
					gone[data]++
					queue = slices.Delete(queue, i, i+1)
				}
			case k < 14:
				got = w.Drop(i)
				if there {
					gone[queue[i].data]++
					lost++
					queue = slices.Delete(queue, i, i+1)
				}
			case k < 19:
				got = w.Twice(i)
				if there && len(queue) == 400 {
					want = api.ErrFull
				} else if there {
					made[queue[i].data]++
					queue = append(queue, queue[i])
				}
			default:
				want = api.OK
				if a == b {
					want = api.ErrArg
				} else {
					cut[[2]int{a, b}] = r.Intn(3) == 0
				}
				got = w.Cut(a, b, cut[[2]int{a, b}])
			}
			if got != want || w.Len() != len(queue) || w.Lost() != lost || w.IsCut(a, b) != cut[[2]int{a, b}] {
				t.Fatalf("seed %d: %d, not %d; %d on their way, not %d; %d lost, not %d", seed, got, want, w.Len(), len(queue), w.Lost(), lost)
			}
		}
		has(t, "behind all", w, lost, queue...)
		for _, m := range waits(t, w) {
			gone[m.data]++
		}
		for data, n := range made {
			if gone[data] != n {
				t.Errorf("seed %d: %s was made %d times and is somewhere %d times", seed, data, n, gone[data])
			}
		}
	}
}
