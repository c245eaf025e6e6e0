package manifest

import (
	"slices"

	"bedrock/api"
	"bedrock/fault"
	"bedrock/raw"
	"bedrock/vec"
)

const (
	maxEnd   = 500       // bytes of a table's least and greatest key
	maxAdd   = 50        // files of an edit
	maxName  = 32        // bytes of a note's name
	maxText  = 20000     // bytes of a note's text
	maxTexts = 50000     // bytes of the texts of several notes
	maxLog   = 1<<32 - 1 // the log has no segment of a greater number
)

// must gives up with an Errno, if something that has to hold does not.
func must(ok bool, e api.Errno) {
	if !ok {
		panic(e)
	}
}

// Valid tells whether it is a file.
func Valid(f api.File) bool {
	return within(f.Level, 0, api.MaxLevel) &&
		within(f.Number, 1, api.MaxNumber) &&
		within(f.Count, 1, api.MaxNumber) &&
		within(f.Bytes, 0, api.MaxNumber) &&
		within(len(f.First), 1, maxEnd) &&
		within(len(f.Last), 1, maxEnd) &&
		raw.Compare(f.First, f.Last) <= 0
}

func within(n, least, most int) bool { return n >= least && n <= most }

// Apply tells a state behind an edit.
func Apply(s api.State, e api.Edit) (t api.State, err api.Errno) {
	defer func() {
		if r := recover(); r != nil {
			t, err = api.State{}, fault.Told(r)
		}
	}()
	t = behind(s, e)
	must(len(e.Add) <= maxAdd && textsOf(e.Notes) <= maxTexts, api.ErrLong)
	return t, api.OK
}

// behind tells a state behind an edit, however long that is (a whole state is
// one of nothing), or gives up.
func behind(s api.State, e api.Edit) api.State {
	ask(e)
	t := api.State{Next: max(s.Next, 1)}
	l := tablesOf(s.Files)
	l.remove(e.Remove)
	l.add(e.Add, t.Next)
	for _, f := range e.Add {
		t.Next = max(t.Next, f.Number+1)
	}
	t.Floor = raised(s.Floor, e.Floor)
	t.Log = later(s.Log, e.Log)
	t.Files = l.inOrder()
	askApart(t.Files)
	t.Notes = slices.DeleteFunc(lastSaid(slices.Concat(s.Notes, e.Notes)), isTaken)
	must(len(t.Files) <= api.MaxTables, api.ErrLong)
	must(len(t.Notes) <= api.MaxNotes && textsOf(t.Notes) <= maxTexts, api.ErrLong)
	return t
}

// ask gives up, if an edit can't be one, whatever the state is.
func ask(e api.Edit) {
	for _, f := range e.Add {
		must(Valid(f), api.ErrArg)
	}
	must(len(e.Floor) == 0 || vec.Valid(e.Floor), api.ErrArg)
	must(within(e.Log, 0, maxLog), api.ErrArg)
	for _, n := range e.Notes {
		must(within(len(n.Name), 1, maxName) && len(n.Text) <= maxText, api.ErrArg)
	}
}

// raised tells the floor behind one that is said, or not.
func raised(floor, said api.Vec) api.Vec {
	if len(said) == 0 {
		return slices.Clone(floor)
	}
	must(len(floor) == 0 || vec.Leq(floor, said), api.ErrOrder)
	return slices.Clone(said)
}

// later tells the log's segment behind one that is said, or not.
func later(log, said int) int {
	if said == 0 {
		return log
	}
	must(said >= log, api.ErrOrder)
	return said
}
