package manifest_test

import (
	"fmt"
	"math/rand"
	"slices"
	"strings"
	"testing"

	"bedrock/api"
	"bedrock/disk"
)

// applies tells a state behind an edit by the document's words, one by one.
func applies(s api.State, e api.Edit) (api.State, api.Errno) {
	no := func(e api.Errno) (api.State, api.Errno) { return api.State{}, e }
	if !possible(e) {
		return no(api.ErrArg)
	}
	files := slices.Clone(s.Files)
	numbered := func(n int) func(f api.File) bool { return func(f api.File) bool { return f.Number == n } }
	for i, n := range e.Remove {
		if !slices.ContainsFunc(s.Files, numbered(n)) || slices.Contains(e.Remove[:i], n) {
			return no(api.ErrNone)
		}
		files = slices.DeleteFunc(files, numbered(n))
	}
	next := max(s.Next, 1)
	for i, f := range e.Add {
		if slices.ContainsFunc(files, numbered(f.Number)) || slices.ContainsFunc(e.Add[:i], numbered(f.Number)) || f.Number < max(s.Next, 1) {
			return no(api.ErrThere)
		}
		next = max(next, f.Number+1)
	}
	files = append(files, e.Add...)
	t := api.State{Next: next, Log: s.Log, Floor: s.Floor, Notes: said(s.Notes, e.Notes)}
	if len(e.Floor) > 0 {
		for i := range s.Floor {
			if len(s.Floor) != len(e.Floor) || e.Floor[i] < s.Floor[i] {
				return no(api.ErrOrder)
			}
		}
		t.Floor = e.Floor
	}
	if e.Log > 0 {
		if e.Log < s.Log {
			return no(api.ErrOrder)
		}
		t.Log = e.Log
	}
	for i, a := range files {
		for _, b := range files[:i] {
			if a.Level == b.Level && a.Level >= 1 && a.First <= b.Last && b.First <= a.Last {
				return no(api.ErrOrder)
			}
		}
	}
	if len(e.Add) > maxAdd || bytesOf(e.Notes) > maxTexts || len(files) > api.MaxTables || len(t.Notes) > api.MaxNotes || bytesOf(t.Notes) > maxTexts {
		return no(api.ErrLong)
	}
	for len(files) > 0 { // the least one first
		at := 0
		for i, f := range files {
			if f.Level < files[at].Level || f.Level == files[at].Level && (f.Level == 0 && f.Number < files[at].Number || f.Level > 0 && f.First < files[at].First) {
				at = i
			}
		}
		t.Files = append(t.Files, files[at])
		files = slices.Delete(files, at, at+1)
	}
	return t, api.OK
}

// possible tells whether an edit is one, whatever the state is.
func possible(e api.Edit) bool {
	for _, f := range e.Add {
		if f.Level < 0 || f.Level > 6 || f.Number < 1 || f.Number > api.MaxNumber || f.Count < 1 || f.Count > api.MaxNumber || f.Bytes < 0 || f.Bytes > api.MaxNumber || f.First == "" || len(f.First) > maxEnd || len(f.Last) > maxEnd || f.First > f.Last {
			return false
		}
	}
	for _, t := range e.Floor {
		if t < 0 || t >= api.MaxTime {
			return false
		}
	}
	for _, n := range e.Notes {
		if n.Name == "" || len(n.Name) > 32 || len(n.Text) > maxText {
			return false
		}
	}
	return len(e.Floor) <= api.MaxNodes && e.Log >= 0 && e.Log <= maxLog
}

func bytesOf(l []api.Pair2) int {
	n := 0
	for _, p := range l {
		n += len(p.Text)
	}
	return n
}

// said tells notes behind others that are said, one by one.
func said(l, more []api.Pair2) []api.Pair2 {
	l = slices.Clone(l)
	for _, n := range more {
		l = slices.DeleteFunc(l, func(p api.Pair2) bool { return p.Name == n.Name })
		if n.Text != "" {
			l = append(l, n)
		}
	}
	slices.SortFunc(l, func(a, b api.Pair2) int { return strings.Compare(a.Name, b.Name) })
	return l
}

// random is an edit of which most can be done to a state, and some can't.
func random(r *rand.Rand, s api.State) api.Edit {
	var e api.Edit
	rare := func() bool { return r.Intn(60) == 0 }
	end := func() string { return strings.Repeat(string("abcdefghijklmnop\x00\xff"[r.Intn(18)]), 1+r.Intn(3)) }
	for i := range r.Intn(4) {
		f := file(max(r.Intn(9)-2, 0), max(s.Next, 1)+i+r.Intn(2)*r.Intn(3), end(), end())
		if f.First > f.Last && !rare() {
			f.First, f.Last = f.Last, f.First
		}
		if rare() {
			f.Number = r.Intn(max(s.Next, 1) + 1)
		}
		if rare() {
			f.Level, f.Count, f.Bytes = r.Intn(9)-1, r.Intn(3), r.Intn(3)-1
		}
		e.Add = append(e.Add, f)
	}
	for _, f := range s.Files {
		if r.Intn(3) == 0 {
			e.Remove = append(e.Remove, f.Number)
		}
	}
	if rare() {
		e.Remove = append(e.Remove, r.Intn(s.Next+2))
	}
	if r.Intn(3) == 0 {
		e.Log = s.Log + r.Intn(3) - r.Intn(2)*r.Intn(2)
	}
	if r.Intn(3) == 0 {
		e.Floor = slices.Clone(s.Floor)
		for len(e.Floor) < 2 || rare() {
			e.Floor = append(e.Floor, 0)
		}
		e.Floor[r.Intn(2)] += r.Intn(5) - r.Intn(2)
	}
	for range r.Intn(4) {
		n := api.Pair2{Name: string("abcdef"[r.Intn(6)]), Text: strings.Repeat("x", r.Intn(4)*r.Intn(50))}
		if rare() {
			n.Name = letters(r.Intn(2) * 33)
		}
		if rare() {
			n.Text = letters(maxText + r.Intn(2))
			e.Notes = append(e.Notes, notes("g", letters(maxText), "h", letters(r.Intn(maxText)))...)
		}
		e.Notes = append(e.Notes, n)
	}
	return e
}

// P1401: whatever is done to whatever state.
func TestApplyIsAsItsModel(t *testing.T) {
	told := map[api.Errno]int{}
	for seed := range int64(1000) {
		r := rand.New(rand.NewSource(seed))
		var s api.State
		for range 100 {
			e := random(r, s)
			want, err := applies(s, e)
			applied(t, fmt.Sprint("seed ", seed), s, e, want, err)
			if err == api.OK {
				if !manifestSays(want) {
					t.Fatalf("seed %d: %s", seed, short(want))
				}
				s = want
			}
			told[err]++
		}
	}
	for _, e := range []api.Errno{api.OK, api.ErrArg, api.ErrNone, api.ErrThere, api.ErrOrder, api.ErrLong} {
		if told[e] < 100 {
			t.Errorf("%d is told %d times", e, told[e])
		}
	}
}

// P1402, P1403: a manifest says what its edits come to, and so does the next one.
func TestManifestIsAsItsModel(t *testing.T) {
	for seed := range int64(200) {
		r := rand.New(rand.NewSource(seed))
		d := disk.New()
		m := open(t, d)
		s := api.State{Next: 1}
		for range 100 {
			e := random(r, s)
			want, err := applies(s, e)
			if got := m.Commit(e); got != err {
				t.Fatalf("seed %d: %d, not %d", seed, got, err)
			}
			if err == api.OK {
				s = want
			}
			switch r.Intn(12) {
			case 0:
				m = open(t, d)
			case 1:
				done(t, "Swap", m.Swap())
			}
			says(t, fmt.Sprint("seed ", seed), d, m, s)
		}
	}
}

// P1401, P1402, P1403
func FuzzManifest(f *testing.F) {
	f.Add(0, 1, 1, 0, "a", "b", 0, -1, "n", "1")
	f.Add(6, 5, 1, 7, "\x00", "\xff", 9, 1<<40, "", "")
	f.Fuzz(func(t *testing.T, level, number, count, bytes int, first, last string, log, time int, name, text string) {
		e := api.Edit{Log: log, Notes: notes(name, text, "b", last, name, first)}
		for i := range 3 {
			e.Add = append(e.Add, api.File{Level: level, Number: number + i*count, Count: count, Bytes: bytes, First: first + string(rune('a'+i)), Last: last})
		}
		if time >= 0 {
			e.Floor = api.Vec{time, log}
		}
		d := disk.New()
		m := open(t, d)
		var s api.State
		for range 2 {
			want, err := applies(s, e)
			if err == api.OK {
				s = want
			}
			applied(t, "Apply", m.State(), e, want, err)
			if got := m.Commit(e); got != err {
				t.Errorf("Commit: %d, not %d", got, err)
			}
			e.Remove, e.Add[0].Number = []int{number}, number+1
			e.Add = e.Add[:1]
		}
		s.Next = max(s.Next, 1)
		says(t, "what is said", d, m, s)
	})
}
