package manifest

import (
	"slices"

	"bedrock/api"
	"bedrock/raw"
)

// lastSaid tells notes by their names, each once: the last one of those that
// have that name.
func lastSaid(l []api.Pair2) []api.Pair2 {
	l = slices.Clone(l)
	slices.Reverse(l)
	slices.SortStableFunc(l, byName)
	return slices.CompactFunc(l, func(a, b api.Pair2) bool { return a.Name == b.Name })
}

func byName(a, b api.Pair2) int { return raw.Compare(a.Name, b.Name) }

// isTaken tells whether a note says that there is none any more.
func isTaken(n api.Pair2) bool { return n.Text == "" }

// textsOf tells how many bytes the texts of some notes have.
func textsOf(l []api.Pair2) int {
	size := 0
	for _, n := range l {
		size += len(n.Text)
	}
	return size
}
