package merge

import (
	"container/heap"

	"bedrock/api"
	"bedrock/raw"
)

// source is a list, of what is not told yet.
type source struct {
	rest   [][2]string
	number int // how many lists stand ahead of it
}

// sources is a heap of lists, each of which has something left: the first of
// them has the least key; of several that have it it is the first list of all.
type sources []source

func (s sources) Len() int { return len(s) }

func (s sources) Less(i, j int) bool {
	c := raw.Compare(s[i].rest[0][0], s[j].rest[0][0])
	return c < 0 || c == 0 && s[i].number < s[j].number
}

func (s sources) Swap(i, j int) { s[i], s[j] = s[j], s[i] }

// Push is for container/heap alone.
func (s *sources) Push(x any) { *s = append(*s, x.(source)) }

// Pop is for container/heap alone.
func (s *sources) Pop() any {
	at := len(*s) - 1
	last := (*s)[at]
	*s = (*s)[:at]
	return last
}

// step leaves out the least pair. It gives up, if what stands behind it in its
// list is not above it.
func (s *sources) step() {
	first := &(*s)[0]
	key := first.rest[0][0]
	first.rest = first.rest[1:]
	if len(first.rest) == 0 {
		heap.Pop(s)
		return
	}
	if raw.Compare(key, first.rest[0][0]) >= 0 {
		panic(api.ErrOrder)
	}
	heap.Fix(s, 0)
}
