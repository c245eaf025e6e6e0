package manifest_test

import (
	"fmt"
	"math"
	"slices"
	"strings"
	"testing"

	"bedrock/api"
	"bedrock/manifest"
)

const (
	maxEnd   = 500
	maxAdd   = 50
	maxText  = 20000
	maxTexts = 50000
	maxLog   = 1<<32 - 1
)

// file is one with all that nobody asks for.
func file(level, number int, first, last string) api.File {
	return api.File{Level: level, Number: number, Count: 1, Bytes: 5, First: first, Last: last}
}

func adding(l ...api.File) api.Edit { return api.Edit{Add: l} }

// noting is an edit of names and texts by turns.
func noting(l ...string) api.Edit { return api.Edit{Notes: notes(l...)} }

func notes(l ...string) []api.Pair2 {
	var n []api.Pair2
	for i := 0; i < len(l); i += 2 {
		n = append(n, api.Pair2{Name: l[i], Text: l[i+1]})
	}
	return n
}

// letters is a text of so many of them.
func letters(n int) string { return strings.Repeat("x", n) }

// same holds two states against each other; lists that are nil and empty are the same.
func same(a, b api.State) bool {
	return slices.Equal(a.Files, b.Files) && a.Next == b.Next && a.Log == b.Log && slices.Equal(a.Floor, b.Floor) && slices.Equal(a.Notes, b.Notes)
}

// copied is a state, or an edit, that shares no memory.
func copied(s api.State) api.State {
	s.Files, s.Floor, s.Notes = slices.Clone(s.Files), slices.Clone(s.Floor), slices.Clone(s.Notes)
	return s
}

func copiedEdit(e api.Edit) api.Edit {
	e.Add, e.Remove, e.Floor, e.Notes = slices.Clone(e.Add), slices.Clone(e.Remove), slices.Clone(e.Floor), slices.Clone(e.Notes)
	return e
}

// sameEdit tells whether two edits are the same.
func sameEdit(a, b api.Edit) bool {
	return slices.Equal(a.Add, b.Add) && slices.Equal(a.Remove, b.Remove) && a.Log == b.Log && slices.Equal(a.Floor, b.Floor) && slices.Equal(a.Notes, b.Notes)
}

// short tells anything in few words.
func short(x any) string { return fmt.Sprintf("%.300s", fmt.Sprintf("%+v", x)) }

// applied holds Apply against what is wanted.
func applied(t *testing.T, what string, s api.State, e api.Edit, want api.State, err api.Errno) {
	t.Helper()
	s0, e0 := copied(s), copiedEdit(e)
	got, told := manifest.Apply(s, e)
	if told != err || !same(got, want) {
		t.Errorf("%s: %s, %d, not %s, %d", what, short(got), told, short(want), err)
	}
	if !same(s, s0) || !sameEdit(e, e0) {
		t.Errorf("%s: what was handed in is changed", what)
	}
}

// P1401
func TestValid(t *testing.T) {
	one := api.File{Number: 1, Count: 1, First: "a", Last: "a"}
	for _, c := range []struct {
		what  string
		with  func(f *api.File)
		valid bool
	}{
		{"the least", func(f *api.File) {}, true},
		{"level -1", func(f *api.File) { f.Level = -1 }, false},
		{"level 6", func(f *api.File) { f.Level = 6 }, true},
		{"level 7", func(f *api.File) { f.Level = 7 }, false},
		{"number 0", func(f *api.File) { f.Number = 0 }, false},
		{"number -1", func(f *api.File) { f.Number = -1 }, false},
		{"the greatest number", func(f *api.File) { f.Number = api.MaxNumber }, true},
		{"a greater number", func(f *api.File) { f.Number = api.MaxNumber + 1 }, false},
		{"no pairs", func(f *api.File) { f.Count = 0 }, false},
		{"-1 pairs", func(f *api.File) { f.Count = -1 }, false},
		{"most pairs", func(f *api.File) { f.Count = api.MaxNumber }, true},
		{"more pairs", func(f *api.File) { f.Count = api.MaxNumber + 1 }, false},
		{"-1 bytes", func(f *api.File) { f.Bytes = -1 }, false},
		{"most bytes", func(f *api.File) { f.Bytes = api.MaxNumber }, true},
		{"more bytes", func(f *api.File) { f.Bytes = api.MaxNumber + 1 }, false},
		{"the least int", func(f *api.File) { f.Bytes = math.MinInt }, false},
		{"the greatest int", func(f *api.File) { f.Level = math.MaxInt }, false},
		{"no first", func(f *api.File) { f.First = "" }, false},
		{"no last", func(f *api.File) { f.Last = "" }, false},
		{"neither", func(f *api.File) { f.First, f.Last = "", "" }, false},
		{"first above last", func(f *api.File) { f.First = "b" }, false},
		{"first longer than last", func(f *api.File) { f.First = "a\x00" }, false},
		{"last longer than first", func(f *api.File) { f.Last = "a\x00" }, true},
		{"bytes, not runes", func(f *api.File) { f.First, f.Last = "é", "\xff" }, true},
		{"500 bytes", func(f *api.File) { f.First, f.Last = letters(maxEnd), letters(maxEnd) }, true},
		{"first of 501 bytes", func(f *api.File) { f.First, f.Last = letters(maxEnd+1), "y" }, false},
		{"last of 501 bytes", func(f *api.File) { f.Last = letters(maxEnd + 1) }, false},
	} {
		f := one
		c.with(&f)
		if manifest.Valid(f) != c.valid {
			t.Errorf("%s: %v", c.what, !c.valid)
		}
		s, e := manifest.Apply(api.State{}, adding(f))
		if c.valid && (e != api.OK || !slices.Equal(s.Files, []api.File{f})) || !c.valid && (e != api.ErrArg || !same(s, api.State{})) {
			t.Errorf("%s: Apply: %s, %d", c.what, short(s), e)
		}
	}
}

// some is a state with something of each kind.
func some() api.State {
	return api.State{
		Files: []api.File{file(0, 2, "a", "z"), file(0, 3, "a", "b"), file(1, 1, "c", "e"), file(1, 4, "g", "k")},
		Next:  6, // number 5 was there, and is gone
		Log:   3,
		Floor: api.Vec{1, 2},
		Notes: notes("m", "1", "n", "2"),
	}
}

// P1401: each error alone, at its edges.
func TestApplyRefuses(t *testing.T) {
	many := api.Edit{}
	for i := range maxAdd + 1 {
		many.Add = append(many.Add, file(0, 6+i, "a", "b"))
	}
	long := letters(maxText)
	for _, c := range []struct {
		what string
		e    api.Edit
		err  api.Errno
	}{
		{"no file", adding(file(1, 0, "a", "b")), api.ErrArg},
		{"no file behind one", adding(file(0, 6, "a", "b"), file(7, 7, "a", "b")), api.ErrArg},
		{"a floor below 0", api.Edit{Floor: api.Vec{1, -1}}, api.ErrArg},
		{"a floor of no time", api.Edit{Floor: api.Vec{1, api.MaxTime}}, api.ErrArg},
		{"a floor of nine", api.Edit{Floor: make(api.Vec, 9)}, api.ErrArg},
		{"log -1", api.Edit{Log: -1}, api.ErrArg},
		{"log 2^32", api.Edit{Log: maxLog + 1}, api.ErrArg},
		{"no name", noting("", "1"), api.ErrArg},
		{"no name and no text", noting("", ""), api.ErrArg},
		{"a long name", noting(letters(33), "1"), api.ErrArg},
		{"a long name of what is taken away", noting("m", "", letters(33), ""), api.ErrArg},
		{"a long text", noting("m", letters(maxText+1)), api.ErrArg},
		{"a long text that is said anew", noting("m", letters(maxText+1), "m", ""), api.ErrArg},

		{"removed: none", api.Edit{Remove: []int{5}}, api.ErrNone},
		{"removed: 0", api.Edit{Remove: []int{0}}, api.ErrNone},
		{"removed: -1", api.Edit{Remove: []int{1, -1}}, api.ErrNone},
		{"removed: the greatest", api.Edit{Remove: []int{math.MaxInt}}, api.ErrNone},
		{"removed twice", api.Edit{Remove: []int{2, 1, 2}}, api.ErrNone},
		{"removed and added by the same", api.Edit{Remove: []int{7}, Add: []api.File{file(0, 7, "a", "b")}}, api.ErrNone},

		{"added: there", adding(file(0, 2, "a", "b")), api.ErrThere},
		{"added: removed", api.Edit{Remove: []int{2}, Add: []api.File{file(0, 2, "a", "b")}}, api.ErrThere},
		{"added: had been there", adding(file(0, 5, "a", "b")), api.ErrThere},
		{"added twice", adding(file(0, 6, "a", "b"), file(0, 7, "a", "b"), file(2, 6, "c", "d")), api.ErrThere},

		{"a floor below", api.Edit{Floor: api.Vec{1, 1}}, api.ErrOrder},
		{"a floor beside", api.Edit{Floor: api.Vec{0, 9}}, api.ErrOrder},
		{"a shorter floor", api.Edit{Floor: api.Vec{9}}, api.ErrOrder},
		{"a longer floor", api.Edit{Floor: api.Vec{9, 9, 9}}, api.ErrOrder},
		{"log 2", api.Edit{Log: 2}, api.ErrOrder},
		{"log 1", api.Edit{Log: 1}, api.ErrOrder},
		{"a file's last is another's first", adding(file(1, 6, "a", "c")), api.ErrOrder},
		{"a file's first is another's last", adding(file(1, 6, "k", "l")), api.ErrOrder},
		{"within another", adding(file(1, 6, "d", "d")), api.ErrOrder},
		{"around another", adding(file(1, 6, "f", "l")), api.ErrOrder},
		{"around two", adding(file(1, 6, "a", "z")), api.ErrOrder},
		{"two that are added", adding(file(6, 6, "b", "c"), file(6, 7, "a", "b")), api.ErrOrder},
		{"two of one key", adding(file(2, 6, "b", "b"), file(2, 7, "b", "b")), api.ErrOrder},
		{"two that don't stand side by side when they come", adding(file(2, 6, "a", "m"), file(2, 7, "x", "y"), file(2, 8, "c", "d")), api.ErrOrder},

		{"51 files", many, api.ErrLong},
		{"50,001 bytes of texts", noting("a", long, "b", long, "c", letters(maxTexts-2*maxText+1)), api.ErrLong},
		{"50,001 bytes of one note's texts", noting("m", long, "m", long, "m", letters(maxTexts-2*maxText+1), "m", ""), api.ErrLong},
		{"50,001 bytes with those that are there", noting("a", long, "b", long, "c", letters(maxTexts-2*maxText-1)), api.ErrLong},
	} {
		applied(t, c.what, some(), c.e, api.State{}, c.err)
	}
}

// P1401: of several errors the first one is told.
func TestApplyRefusesInOrder(t *testing.T) {
	long := letters(maxText)
	wrong := []struct {
		err  api.Errno
		with func(e *api.Edit)
	}{
		{api.ErrArg, func(e *api.Edit) { e.Notes = append(e.Notes, api.Pair2{}) }},
		{api.ErrNone, func(e *api.Edit) { e.Remove = append(e.Remove, 5) }},
		{api.ErrThere, func(e *api.Edit) { e.Add = append(e.Add, file(0, 5, "a", "b")) }},
		{api.ErrOrder, func(e *api.Edit) { e.Floor = api.Vec{0, 9} }},
		{api.ErrOrder, func(e *api.Edit) { e.Log = 1 }},
		{api.ErrOrder, func(e *api.Edit) { e.Add = append(e.Add, file(1, 9, "a", "z")) }},
		{api.ErrLong, func(e *api.Edit) { e.Notes = append(e.Notes, notes("a", long, "b", long, "c", long)...) }},
	}
	for i := range wrong {
		var e api.Edit
		for k := len(wrong) - 1; k >= i; k-- {
			wrong[k].with(&e)
		}
		applied(t, fmt.Sprint("from error ", i, " on"), some(), e, api.State{}, wrong[i].err)
	}
	for i := range wrong {
		for k := range i {
			var e api.Edit
			wrong[i].with(&e)
			wrong[k].with(&e)
			applied(t, fmt.Sprint("errors ", k, " and ", i), some(), e, api.State{}, wrong[k].err)
		}
	}
}

// P1401
func TestApply(t *testing.T) {
	for _, c := range []struct {
		what string
		e    api.Edit
		with func(s *api.State)
	}{
		{"nothing", api.Edit{}, func(s *api.State) {}},
		{"empty lists", api.Edit{Add: []api.File{}, Remove: []int{}, Floor: api.Vec{}, Notes: []api.Pair2{}}, func(s *api.State) {}},
		{"the same floor", api.Edit{Floor: api.Vec{1, 2}}, func(s *api.State) {}},
		{"a floor above", api.Edit{Floor: api.Vec{1, api.MaxTime - 1}}, func(s *api.State) { s.Floor = api.Vec{1, api.MaxTime - 1} }},
		{"the same log", api.Edit{Log: 3}, func(s *api.State) {}},
		{"the last log", api.Edit{Log: maxLog}, func(s *api.State) { s.Log = maxLog }},
		{"one removed", api.Edit{Remove: []int{3}}, func(s *api.State) { s.Files = slices.Delete(s.Files, 1, 2) }},
		{"all removed", api.Edit{Remove: []int{4, 1, 3, 2}}, func(s *api.State) { s.Files = nil }},
		{"level 0 is in the numbers' order", adding(file(0, 9, "a", "b"), file(0, 7, "z", "z")), func(s *api.State) {
			s.Files, s.Next = slices.Insert(s.Files, 2, file(0, 7, "z", "z"), file(0, 9, "a", "b")), 10
		}},
		{"level 1 is in the keys' order", adding(file(1, 6, "l", "z"), file(1, 8, "a", "b"), file(1, 7, "f", "f")), func(s *api.State) {
			s.Files, s.Next = []api.File{s.Files[0], s.Files[1], file(1, 8, "a", "b"), s.Files[2], file(1, 7, "f", "f"), s.Files[3], file(1, 6, "l", "z")}, 9
		}},
		{"levels", adding(file(6, 6, "a", "b"), file(3, 7, "a", "b"), file(2, 8, "x", "y")), func(s *api.State) {
			s.Files, s.Next = append(s.Files, file(2, 8, "x", "y"), file(3, 7, "a", "b"), file(6, 6, "a", "b")), 9
		}},
		{"the greatest number", adding(file(2, api.MaxNumber, "a", "b")), func(s *api.State) {
			s.Files, s.Next = append(s.Files, file(2, api.MaxNumber, "a", "b")), api.MaxNumber+1
		}},
		{"in the place of one that goes", api.Edit{Remove: []int{1, 4}, Add: []api.File{file(1, 6, "a", "z")}}, func(s *api.State) {
			s.Files, s.Next = append(s.Files[:2], file(1, 6, "a", "z")), 7
		}},
		{"between two", adding(file(1, 6, "e\x00", "f\xff")), func(s *api.State) {
			s.Files, s.Next = slices.Insert(s.Files, 3, file(1, 6, "e\x00", "f\xff")), 7
		}},
		{"notes", noting("o", "3", "m", "4", "a", "5"), func(s *api.State) { s.Notes = notes("a", "5", "m", "4", "n", "2", "o", "3") }},
		{"a note twice", noting("m", "3", "a", "5", "m", "4"), func(s *api.State) { s.Notes = notes("a", "5", "m", "4", "n", "2") }},
		{"a note taken away", noting("m", ""), func(s *api.State) { s.Notes = notes("n", "2") }},
		{"a note taken away behind being said", noting("a", "1", "m", "3", "a", "", "m", ""), func(s *api.State) { s.Notes = notes("n", "2") }},
		{"a note said behind being taken away", noting("m", "", "m", "3"), func(s *api.State) { s.Notes = notes("m", "3", "n", "2") }},
		{"a note that is not there taken away", noting("a", ""), func(s *api.State) {}},
		{"all notes taken away", noting("n", "", "m", ""), func(s *api.State) { s.Notes = nil }},
		{"a long name", noting(letters(32), "1"), func(s *api.State) { s.Notes = append(s.Notes, notes(letters(32), "1")...) }},
		{"names of any bytes", noting("\xff", "\x00", "\x00", "\xff"), func(s *api.State) { s.Notes = notes("\x00", "\xff", "m", "1", "n", "2", "\xff", "\x00") }},
		{"long texts", noting("m", letters(maxText), "n", letters(maxText), "o", letters(maxTexts-2*maxText)), func(s *api.State) {
			s.Notes = notes("m", letters(maxText), "n", letters(maxText), "o", letters(maxTexts-2*maxText))
		}},
		{"of each something", api.Edit{Remove: []int{2, 1}, Add: []api.File{file(1, 9, "a", "b"), file(0, 7, "a", "a")}, Log: 4, Floor: api.Vec{2, 2}, Notes: notes("n", "")}, func(s *api.State) {
			*s = api.State{Files: []api.File{file(0, 3, "a", "b"), file(0, 7, "a", "a"), file(1, 9, "a", "b"), file(1, 4, "g", "k")}, Next: 10, Log: 4, Floor: api.Vec{2, 2}, Notes: notes("m", "1")}
		}},
	} {
		want := some()
		c.with(&want)
		applied(t, c.what, some(), c.e, want, api.OK)
	}
}

// P1401: a zero state.
func TestApplyToNothing(t *testing.T) {
	applied(t, "nothing", api.State{}, api.Edit{}, api.State{Next: 1}, api.OK)
	applied(t, "a file", api.State{}, adding(file(1, 1, "a", "b")), api.State{Files: []api.File{file(1, 1, "a", "b")}, Next: 2}, api.OK)
	applied(t, "any floor", api.State{}, api.Edit{Floor: make(api.Vec, 8)}, api.State{Next: 1, Floor: make(api.Vec, 8)}, api.OK)
	applied(t, "a log", api.State{}, api.Edit{Log: 1}, api.State{Next: 1, Log: 1}, api.OK)
	applied(t, "Next stays", api.State{Next: 7}, api.Edit{}, api.State{Next: 7}, api.OK)
	applied(t, "no more numbers", api.State{Next: api.MaxNumber + 1}, adding(file(0, api.MaxNumber, "a", "b")), api.State{}, api.ErrThere)
}

// full is a state of so many tables, notes and bytes of texts.
func full(files, pieces, texts int) api.State {
	s := api.State{Next: files + 1}
	for i := range files {
		s.Files = append(s.Files, file(1, i+1, fmt.Sprintf("k%04d", i), fmt.Sprintf("k%04dx", i)))
	}
	for i := range pieces {
		size := texts / (pieces - i)
		texts -= size
		s.Notes = append(s.Notes, api.Pair2{Name: fmt.Sprintf("n%02d", i), Text: letters(size)})
	}
	return s
}

// P1401: what there would be is asked for, not what there is.
func TestApplyToMuch(t *testing.T) {
	for _, c := range []struct {
		what string
		s    api.State
		e    api.Edit
		err  api.Errno
	}{
		{"499 files", full(499, 0, 0), adding(file(0, 500, "a", "b")), api.OK},
		{"500 files", full(500, 0, 0), adding(file(0, 501, "a", "b")), api.ErrLong},
		{"500 files, one of which goes", full(500, 0, 0), api.Edit{Remove: []int{7}, Add: []api.File{file(0, 501, "a", "b")}}, api.OK},
		{"500 files, and keys in common", full(500, 0, 0), adding(file(1, 501, "k0000", "k0000")), api.ErrOrder},
		{"500 files, and nothing new", full(500, 0, 0), noting("n", "1"), api.OK},
		{"49 notes", full(0, 49, 49), noting("o", "1"), api.OK},
		{"50 notes", full(0, 50, 50), noting("o", "1"), api.ErrLong},
		{"50 notes, one of which is said anew", full(0, 50, 50), noting("n07", "2"), api.OK},
		{"50 notes, one of which goes", full(0, 50, 50), noting("o", "1", "n07", ""), api.OK},
		{"50 notes, and one that comes and goes", full(0, 50, 50), noting("o", "1", "o", ""), api.OK},
		{"49,999 bytes", full(0, 3, 49999), noting("o", "1"), api.OK},
		{"50,000 bytes", full(0, 3, 50000), noting("o", "1"), api.ErrLong},
		{"50,000 bytes, some of which go", full(0, 3, 50000), noting("n00", "", "o", "1"), api.OK},
		{"50,000 bytes in the place of others", full(0, 3, 50000), noting("n00", letters(20000), "n01", letters(20000), "n02", letters(10000)), api.OK},
	} {
		s, e := manifest.Apply(c.s, c.e)
		if e != c.err || e != api.OK && !same(s, api.State{}) || e == api.OK && !manifestSays(s) {
			t.Errorf("%s: %s, %d, not %d", c.what, short(s), e, c.err)
		}
	}
	var most api.Edit
	for i := range maxAdd {
		most.Add = append(most.Add, file(1, i+1, fmt.Sprintf("k%04d", i), fmt.Sprintf("k%04dx", i)))
	}
	applied(t, "50 files", api.State{}, most, full(50, 0, 0), api.OK)
}

// manifestSays tells whether a state is one that a manifest may say.
func manifestSays(s api.State) bool {
	texts := 0
	for i, n := range s.Notes {
		texts += len(n.Text)
		if n.Text == "" || i > 0 && s.Notes[i-1].Name >= n.Name {
			return false
		}
	}
	for i, f := range s.Files {
		if !manifest.Valid(f) || f.Number >= s.Next {
			return false
		}
		if i == 0 {
			continue
		}
		a := s.Files[i-1]
		if a.Level > f.Level || a.Level == f.Level && (f.Level == 0 && a.Number >= f.Number || f.Level > 0 && a.Last >= f.First) {
			return false
		}
	}
	return len(s.Files) <= api.MaxTables && len(s.Notes) <= api.MaxNotes && texts <= maxTexts
}

// P1401: a state that no manifest says is anything, but no panic, and the same each time.
func TestApplyToWhatever(t *testing.T) {
	bad := []api.State{
		{Next: -5, Log: -1, Floor: api.Vec{-1}, Notes: notes("b", "1", "", "", "a", "2", "b", "")},
		{Next: math.MinInt, Files: []api.File{{}, {}, {Level: -1, First: "b"}, {Level: math.MaxInt, Number: -3}}},
		{Next: math.MaxInt, Log: math.MaxInt, Floor: make(api.Vec, 300), Files: []api.File{file(1, 1, "b", "a"), file(1, 2, "b", "a"), file(1, 1, "c", "c")}},
		{Files: []api.File{file(-1, 3, "a", "b"), file(-1, 2, "a", "b"), file(-1, 1, "a", "b"), file(0, 1, "", letters(9999))}},
	}
	edits := []api.Edit{{}, adding(file(1, 6, "a", "b"), file(0, 7, "a", "b")), {Remove: []int{1, 2}}, {Floor: api.Vec{1, 2}, Log: 4}, noting("a", "", "b", "7")}
	for _, s := range bad {
		for _, e := range edits {
			want, err := manifest.Apply(s, e)
			for range 20 {
				if got, told := manifest.Apply(s, e); !same(got, want) || told != err {
					t.Errorf("Apply(%s, %s): %s, %d and %s, %d", short(s), short(e), short(got), told, short(want), err)
				}
			}
		}
	}
}

// P1401: a state shares no memory with what it is made of, nor with another one.
func TestApplyTellsNewMemory(t *testing.T) {
	s := some()
	e := api.Edit{Add: []api.File{file(0, 8, "a", "b")}, Floor: api.Vec{3, 3}, Notes: notes("o", "1")}
	for _, e := range []api.Edit{{}, e} {
		want, _ := manifest.Apply(s, e)
		got, _ := manifest.Apply(s, e)
		for _, x := range []api.State{got, {Files: got.Files[:0], Floor: got.Floor[:0], Notes: got.Notes[:0]}} {
			_ = append(x.Files, file(5, 5, "x", "x"))
			_ = append(x.Floor, 77)
			_ = append(x.Notes, notes("x", "x")...)
		}
		if again, _ := manifest.Apply(s, e); !same(again, want) || !same(s, some()) {
			t.Errorf("an answer that is written to changes %s to %s", short(want), short(again))
		}
	}
	if e.Add[0] != file(0, 8, "a", "b") || e.Floor[0] != 3 || e.Notes[0].Name != "o" {
		t.Errorf("an answer that is written to changes the edit to %s", short(e))
	}
}
