package skip

import (
	"iter"

	"bedrock/api"
	"bedrock/raw"
)

const lanes = 12 // in how many a pair may stand

// pair stands in the lanes from 0 on, in each ahead of another one.
type pair struct {
	key, value string
	next       [lanes]*pair
}

func (p *pair) has(key string) bool { return p != nil && p.key == key }

// ask gives up if nothing can be put.
func (s *List) ask() {
	if s == nil {
		panic(api.ErrArg)
	}
	if s.frozen {
		panic(api.ErrOpen)
	}
}

// way tells in each lane the last pair below a key, or the head, and by how
// many pairs it went. Lanes that have no pairs take no steps.
func (s *List) way(key string) (before [lanes]*pair, steps int) {
	at := &s.head
	for lane := lanes - 1; lane >= 0; lane-- {
		for next := at.next[lane]; next != nil && raw.Compare(next.key, key) < 0; next = at.next[lane] {
			at = next
			steps++
		}
		before[lane] = at
	}
	return before, steps
}

// insert puts a pair behind those that are before it, in so many lanes.
func (s *List) insert(p *pair, before [lanes]*pair, height int) {
	for lane := range height {
		p.next[lane] = before[lane].next[lane]
		before[lane].next[lane] = p
		s.counts[lane]++
	}
	s.bytes += len(p.key) + len(p.value)
}

// from goes through the pairs whose keys are at least key, rising.
func (s *List) from(key string) iter.Seq[*pair] {
	return func(yield func(*pair) bool) {
		if s == nil {
			return
		}
		before, _ := s.way(key)
		for p := before[0].next[0]; p != nil && yield(p); p = p.next[0] {
		}
	}
}
