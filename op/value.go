package op

import (
	"slices"

	"bedrock/api"
	"bedrock/real"
	"bedrock/stamp"
	"bedrock/vec"
)

// Value tells what a key has behind some versions.
func Value(key string, l []api.Version) api.Value {
	v := api.Value{}
	switch kindOf(key) {
	case 'r', 't':
		if a, found := latest(key, l); found {
			v = After(key, v, a)
		}
	case 'c', 'x', 'n':
		// Acts of these kinds may come in any order.
		for i := range l {
			v = After(key, v, l[i].Act)
		}
	}
	return v
}

// latest tells the act of the latest of those versions that fit.
func latest(key string, l []api.Version) (api.Act, bool) {
	last := -1
	for i := range l {
		if Fits(key, l[i].Act) && (last < 0 || later(l[i], l[last])) {
			last = i
		}
	}
	if last < 0 {
		return api.Act{}, false
	}
	return l[last].Act, true
}

// later tells whether a version stands behind another one: by their stamps, of
// those with one stamp the one with the lesser vector.
func later(v, w api.Version) bool {
	s, t := timeOf(v), timeOf(w)
	switch {
	case stamp.Greater(s, v.Origin, v.Tx, t, w.Origin, w.Tx):
		return true
	case stamp.Greater(t, w.Origin, w.Tx, s, v.Origin, v.Tx):
		return false
	}
	return vec.Compare(v.At, w.At) < 0
}

// timeOf tells the time of any version, of one that can't be kept too.
func timeOf(v api.Version) int {
	switch {
	case v.Origin == api.Folded && len(v.At) > 0:
		return slices.Max(v.At)
	case v.Origin >= 0 && v.Origin < len(v.At):
		return v.At[v.Origin]
	}
	return 0
}

// After tells what a key has behind an act.
func After(key string, v api.Value, a api.Act) api.Value {
	if !Fits(key, a) {
		return v
	}
	if a.Kind == api.ActClear {
		return api.Value{}
	}
	if v.There {
		a = onto(kindOf(key), v.Num, v.Int, a)
	}
	// What an act that fits does not use is zero, and so in the value.
	return api.Value{There: true, Num: a.Num, Int: a.Int, Text: a.Text}
}

// Both tells the act that does what two do.
func Both(key string, a, b api.Act) api.Act {
	if !Fits(key, a) || !Fits(key, b) {
		return b
	}
	return onto(kindOf(key), a.Num, a.Int, b)
}

// onto tells the act that does to nothing what an act does to such numbers of a key.
func onto(kind byte, num float64, whole int, a api.Act) api.Act {
	switch kind {
	case 'c':
		a.Int += whole
	case 'x':
		a.Num = real.Max(num, a.Num)
	case 'n':
		a.Num = real.Min(num, a.Num)
	}
	return a
}
