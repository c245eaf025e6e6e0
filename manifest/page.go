package manifest

import (
	"strings"

	"bedrock/apart"
	"bedrock/api"
	"bedrock/fault"
	"bedrock/raw"
	"bedrock/vec"
)

const sumSize = 4 // bytes of the sum ahead of a page

// page is what one of a manifest's files says: an edit of what the page ahead
// of it says, or all, as an edit of nothing.
type page struct {
	number int // the file's
	next   int // of a page that says all: the state's Next, as it knows of files that are gone; else 0
	edit   api.Edit
}

// whole tells a page that says all of a state.
func whole(s api.State) page {
	return page{next: s.Next, edit: api.Edit{Add: s.Files, Log: s.Log, Floor: s.Floor, Notes: s.Notes}}
}

// isWhole tells whether a page says all.
func (p page) isWhole() bool { return p.next != 0 }

// behind tells the state behind a page, or gives up.
func (p page) behind(s api.State) api.State {
	if !p.isWhole() {
		t, e := Apply(s, p.edit)
		fault.Must(e)
		return t
	}
	t := behind(api.State{}, p.edit)
	must(within(p.next, t.Next, api.MaxNumber+1), api.ErrCorrupt)
	t.Next = p.next
	return t
}

// laid tells a page as bytes.
func (p page) laid() string {
	var w writer
	w.numbers(p.number, p.next)
	w.numbers(len(p.edit.Remove))
	w.numbers(p.edit.Remove...)
	w.numbers(len(p.edit.Add))
	for _, f := range p.edit.Add {
		w.numbers(f.Level, f.Number, f.Count, f.Bytes)
		w.texts(f.First, f.Last)
	}
	w.numbers(p.edit.Log)
	floor, _ := vec.Put(p.edit.Floor) // none of a floor that is not said
	w.texts(floor)
	w.numbers(len(p.edit.Notes))
	for _, n := range p.edit.Notes {
		w.texts(n.Name, n.Text)
	}
	b := w.String()
	sum, _ := raw.Put(raw.Sum(b), sumSize) // a sum always has room
	return sum + b
}

// writer lays one behind the other.
type writer struct{ strings.Builder }

func (w *writer) numbers(l ...int) {
	for _, n := range l {
		w.WriteString(raw.PutVar(n))
	}
}

// texts lays texts, each behind how many bytes it has.
func (w *writer) texts(l ...string) {
	for _, s := range l {
		w.numbers(len(s))
		w.WriteString(s)
	}
}

// pageOf tells the page of some bytes. What no page has is given up by a panic
// with ErrCorrupt.
func pageOf(b string) page {
	r := reader{apart.New(b, api.ErrCorrupt)}
	sum := r.Fixed(sumSize)
	r.Need(sum == raw.Sum(r.Rest()))
	p := page{}
	p.number = r.Number()
	p.next = r.Number()
	p.edit.Remove = list(r, r.Number)
	p.edit.Add = list(r, r.file)
	p.edit.Log = r.Number()
	p.edit.Floor = r.floor()
	p.edit.Notes = list(r, r.note)
	r.Need(r.Rest() == "")
	return p
}

// reader takes a page apart.
type reader struct{ *apart.Reader }

// list takes as many of a kind as the number ahead of them says.
func list[T any](r reader, one func() T) []T {
	var l []T
	for range r.Number() {
		l = append(l, one())
	}
	return l
}

func (r reader) file() api.File {
	f := api.File{Level: r.Number(), Number: r.Number(), Count: r.Number(), Bytes: r.Number()}
	f.First, f.Last = r.Text(), r.Text()
	return f
}

func (r reader) floor() api.Vec {
	b := r.Text()
	if b == "" {
		return nil
	}
	v, size, e := vec.Get(b)
	r.Need(e == api.OK && size == len(b))
	return v
}

func (r reader) note() api.Pair2 {
	return api.Pair2{Name: r.Text(), Text: r.Text()}
}
