package manifest

import (
	"cmp"
	"maps"
	"slices"

	"bedrock/api"
	"bedrock/raw"
)

// tables are files by their numbers.
type tables map[int]api.File

func tablesOf(l []api.File) tables {
	t := tables{}
	for _, f := range l {
		t[f.Number] = f
	}
	return t
}

// remove takes files away, of which each is there until then.
func (t tables) remove(numbers []int) {
	for _, n := range numbers {
		_, there := t[n]
		must(there, api.ErrNone)
		delete(t, n)
	}
}

// add puts files in whose numbers nobody had until then: all that were had are
// below next.
func (t tables) add(l []api.File, next int) {
	for _, f := range l {
		_, there := t[f.Number]
		must(!there && f.Number >= next, api.ErrThere)
		t[f.Number] = f
	}
}

// inOrder tells all files as a state has them.
func (t tables) inOrder() []api.File {
	return slices.SortedFunc(maps.Values(t), order)
}

// order tells which of two files stands first. Where no level has two files
// with a key in common the numbers ask nothing more behind level 0.
func order(a, b api.File) int {
	byKeys := 0
	if a.Level != 0 {
		byKeys = raw.Compare(a.First, b.First)
	}
	return cmp.Or(cmp.Compare(a.Level, b.Level), byKeys, cmp.Compare(a.Number, b.Number))
}

// askApart gives up, if two files of one level have a key in common; at level
// 0 they may. As they are in order, two that have stand side by side.
func askApart(l []api.File) {
	for i := 1; i < len(l); i++ {
		a, b := l[i-1], l[i]
		must(a.Level != b.Level || a.Level < 1 || raw.Compare(a.Last, b.First) < 0, api.ErrOrder)
	}
}
