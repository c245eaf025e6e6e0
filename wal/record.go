package wal

import (
	"strings"

	"bedrock/api"
	"bedrock/raw"
)

const (
	maxRecord = 1 << 17 // bytes of a record
	width     = 4       // bytes of a number ahead of a record
	ahead     = 2 * width
)

// lay tells a record as it stands in a segment. Its length counts one more
// than it has, so that noughts are no record.
func lay(rec string) string {
	length := fixed(len(rec) + 1)
	return length + fixed(raw.Sum(length+rec)) + rec
}

// layAll tells records as they stand in a segment, one behind the other.
func layAll(records []string) string {
	var b strings.Builder
	for _, rec := range records {
		b.WriteString(lay(rec))
	}
	return b.String()
}

// fixed tells a length or a sum as bytes, for which there always is room.
func fixed(n int) string {
	b, _ := raw.Put(n, width)
	return b
}

// good tells the records up to the first place at which none stands, and how
// many bytes they take.
func good(data string) (records []string, size int) {
	// Nothing is set here: the results have what was taken ahead of that place.
	defer func() { _ = recover() }()
	for size < len(data) {
		rec := first(data[size:])
		records = append(records, rec)
		size += ahead + len(rec)
	}
	return records, size
}

// first tells the record at the beginning of some bytes, or gives up.
func first(b string) string {
	if len(b) < ahead {
		panic(api.ErrShort)
	}
	length, _ := raw.Get(b[:width])
	sum, _ := raw.Get(b[width:ahead])
	size := length - 1
	if size < 0 || size > maxRecord || size > len(b)-ahead {
		panic(api.ErrForm)
	}
	rec := b[ahead : ahead+size]
	if raw.Sum(b[:width]+rec) != sum {
		panic(api.ErrForm)
	}
	return rec
}
