package sst

import (
	"bedrock/api"
	"bedrock/block"
	"bedrock/bloom"
	"bedrock/raw"
)

// read takes a table apart, from its end on. What no table has is given up by
// a panic with ErrCorrupt, which Open recovers.
func read(b string) *Table {
	r := reader{rest: b}
	sum := r.number()
	must(sum == raw.Sum(r.rest))
	index := r.last(width * r.number())
	t := &Table{}
	for ; index != ""; index = index[width:] {
		t.add(r.first(unfixed(index[:width])))
	}
	must(!t.none())
	t.filter = r.rest
	for _, p := range t.l {
		must(bloom.May(t.filter, Head(p[0])))
	}
	return t
}

// add puts a block's pairs behind those that a table has.
func (t *Table) add(b string) {
	l, e := block.Parse(b)
	must(e == api.OK && len(l) > 0)
	must(t.none() || raw.Compare(t.Last(), l[0][0]) < 0)
	t.l = append(t.l, l...)
	t.blocks++
}

// must gives up, if what a table has is not there.
func must(ok bool) {
	if !ok {
		panic(api.ErrCorrupt)
	}
}

// unfixed tells the number that fixed told as bytes.
func unfixed(b string) int {
	n, e := raw.Get(b)
	must(e == api.OK)
	return n
}

// reader takes bytes from both ends.
type reader struct{ rest string }

// first takes the first bytes.
func (r *reader) first(n int) string {
	must(n <= len(r.rest))
	b := r.rest[:n]
	r.rest = r.rest[n:]
	return b
}

// last takes the last bytes.
func (r *reader) last(n int) string {
	must(n <= len(r.rest))
	at := len(r.rest) - n
	b := r.rest[at:]
	r.rest = r.rest[:at]
	return b
}

// number takes the last number.
func (r *reader) number() int { return unfixed(r.last(width)) }
