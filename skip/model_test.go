package skip_test

import (
	"math/rand"
	"slices"
	"strings"
	"testing"

	"bedrock/api"
	"bedrock/skip"
)

// entry is a pair of the model, which is a plain list in order.
type entry struct {
	key, value string
	height     int
}

type model []entry

func (m model) at(key string) (int, bool) {
	return slices.BinarySearchFunc(m, key, func(e entry, key string) int { return strings.Compare(e.key, key) })
}

// lane tells the places of the pairs of a lane.
func (m model) lane(h int) []int {
	var l []int
	for i, e := range m {
		if e.height > h {
			l = append(l, i)
		}
	}
	return l
}

// steps goes the way that the document tells, by places: each lane is left at the last one below key.
func (m model) steps(key string) int {
	at, n := -1, 0
	for h := 11; h >= 0; h-- {
		for _, i := range m.lane(h) {
			if i > at && m[i].key < key {
				at = i
				n++
			}
		}
	}
	return n
}

// pairs tells the pairs from a key on, at most so many.
func (m model) pairs(key string, most int) pairs {
	var l pairs
	i, _ := m.at(key)
	for _, e := range m[i:] {
		if most >= 0 && len(l) == most {
			break
		}
		l = append(l, [2]string{e.key, e.value})
	}
	return l
}

func some(r *rand.Rand, most int) string {
	b := make([]byte, r.Intn(most+1))
	for i := range b {
		b[i] = "\x00ab\xff"[r.Intn(4)]
	}
	return string(b)
}

// differs tells in what a list is not as its model.
func differs(s *skip.List, m model, key string, most int) string {
	bytes := 0
	for _, e := range m {
		bytes += len(e.key) + len(e.value)
	}
	var lanes []int
	for h := 0; len(m.lane(h)) > 0; h++ {
		lanes = append(lanes, len(m.lane(h)))
	}
	i, there := m.at(key)
	v, e := s.Get(key)
	k, w, ok := s.Last(key)
	switch {
	case s.Count() != len(m):
		return "count"
	case s.Bytes() != bytes:
		return "bytes"
	case !slices.Equal(s.Lanes(), lanes):
		return "lanes"
	case there && (v != m[i].value || e != api.OK), !there && (v != "" || e != api.ErrNone):
		return "Get"
	case i > 0 && (k != m[i-1].key || w != m[i-1].value || !ok), i == 0 && (k != "" || w != "" || ok):
		return "Last"
	case !slices.Equal(s.From(key, most), m.pairs(key, most)):
		return "From"
	case s.Steps(key) != m.steps(key):
		return "steps"
	}
	return ""
}

// P1001 to P1003: whatever is put, it is as the document tells.
func TestListIsAsItsModel(t *testing.T) {
	for seed := range int64(200) {
		r := rand.New(rand.NewSource(seed))
		s, m := skip.New(), model(nil)
		for range 60 {
			n := entry{some(r, 4), some(r, 3), r.Intn(18) - 2}
			e, want := s.Put(n.key, n.value, n.height), api.OK
			if i, there := m.at(n.key); there {
				want = api.ErrThere
			} else {
				n.height = min(max(n.height, 1), 12)
				m = slices.Insert(m, i, n)
			}
			if e != want {
				t.Fatalf("seed %d: Put(%q): %d, not %d", seed, n.key, e, want)
			}
			key, most := some(r, 5), r.Intn(12)-3
			if what := differs(s, m, key, most); what != "" {
				t.Fatalf("seed %d: behind Put(%q), with %q, %d: other %s", seed, n.key, key, most, what)
			}
		}
	}
}

// P1005: neither heights nor the order of the Puts are told but by Lanes and Steps.
func TestHeightsAndOrderAreNotTold(t *testing.T) {
	var keys []string
	for i := range 300 {
		keys = append(keys, string([]byte{byte(i * 7), byte(i % 5), byte(i)}[:1+i%3]))
	}
	slices.Sort(keys)
	keys = slices.Compact(keys)
	first := skip.New()
	for _, k := range keys {
		first.Put(k, "of "+k, 1)
	}
	for seed := range int64(20) {
		r := rand.New(rand.NewSource(seed))
		s := skip.New()
		for _, i := range r.Perm(len(keys)) {
			if e := s.Put(keys[i], "of "+keys[i], r.Intn(14)); e != api.OK {
				t.Fatalf("Put: %d", e)
			}
		}
		if s.Count() != first.Count() || s.Bytes() != first.Bytes() {
			t.Fatalf("seed %d: %d pairs of %d bytes", seed, s.Count(), s.Bytes())
		}
		for range 100 {
			key, most := keys[r.Intn(len(keys))]+some(r, 1), r.Intn(400)-50
			if !slices.Equal(s.From(key, most), first.From(key, most)) {
				t.Fatalf("seed %d: From(%q, %d)", seed, key, most)
			}
			k, v, ok := s.Last(key)
			if a, b, is := first.Last(key); k != a || v != b || ok != is {
				t.Fatalf("seed %d: Last(%q)", seed, key)
			}
			v, e := s.Get(key)
			if w, f := first.Get(key); v != w || e != f {
				t.Fatalf("seed %d: Get(%q)", seed, key)
			}
		}
	}
}
