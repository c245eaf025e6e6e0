package fold

import (
	"slices"

	"bedrock/api"
	"bedrock/stamp"
	"bedrock/vec"
)

// dated is a version with its time, which is looked for once.
type dated struct {
	version api.Version
	time    int
}

// Order tells versions by their stamps, the greatest first. Of those with one
// stamp and one vector the first one stays alone.
func Order(l []api.Version) []api.Version {
	d := make([]dated, len(l))
	for i, v := range l {
		d[i] = dated{v, timeOf(v)}
	}
	slices.SortStableFunc(d, dated.compare)
	d = slices.CompactFunc(d, func(a, b dated) bool { return a.compare(b) == 0 })
	out := make([]api.Version, len(d))
	for i, a := range d {
		out[i] = a.version
		out[i].At = slices.Clone(out[i].At)
	}
	return out
}

// compare tells which of two versions stands first: that with the greater
// stamp, of two with one stamp that with the lesser vector.
func (a dated) compare(b dated) int {
	v, w := a.version, b.version
	switch {
	case stamp.Greater(a.time, v.Origin, v.Tx, b.time, w.Origin, w.Tx):
		return -1
	case stamp.Greater(b.time, w.Origin, w.Tx, a.time, v.Origin, v.Tx):
		return 1
	}
	return vec.Compare(v.At, w.At)
}

// timeOf tells the time of any version; where it has no place it is 0.
func timeOf(v api.Version) (t int) {
	defer func() {
		if recover() != nil {
			t = 0
		}
	}()
	return timeAt(v.At, v.Origin)
}

// timeAt tells a vector's time at a place. It gives up, if there is none.
func timeAt(at api.Vec, place int) int {
	switch {
	case len(at) == 0:
	case place == api.Folded:
		return slices.Max(at)
	case place >= 0 && place < len(at):
		return at[place]
	}
	panic(api.ErrIndex)
}
