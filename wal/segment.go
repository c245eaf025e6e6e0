package wal

import (
	"math"
	"strconv"
	"strings"

	"bedrock/api"
	"bedrock/atonce"
	"bedrock/fault"
)

const (
	ofSegment = "/w"    // stands behind the log's name, ahead of a segment's number
	ofMend    = "/mend" // what a segment's good part is copied to
	digits    = 8       // of a segment's number
	base      = 16
	maxNumber = math.MaxUint32 // what has so many digits
)

// file tells the name of a segment's file.
func (l *Log) file(number int) string {
	n := strconv.FormatInt(int64(number), base)
	return l.dir + ofSegment + strings.Repeat("0", digits-len(n)) + n
}

// number tells the number of a segment's file; false, if it is another file.
func (l *Log) number(file string) (int, bool) {
	n, err := strconv.ParseUint(strings.TrimPrefix(file, l.dir+ofSegment), base, 32)
	if err != nil || n == 0 {
		return 0, false
	}
	return int(n), l.file(int(n)) == file
}

// ask gives up if there is no disk.
func (l *Log) ask() {
	if l == nil || l.d == nil {
		panic(api.ErrArg)
	}
}

// last is the last one of the segments, of which there is one.
func (l *Log) last() *segment { return &l.segments[len(l.segments)-1] }

func (l *Log) torn() bool { return len(l.segments) > 0 && l.last().torn }

// read takes the segments that are there; none but the last one may be torn.
func (l *Log) read() {
	for _, file := range l.d.List(l.dir + ofSegment) {
		n, ok := l.number(file)
		if !ok {
			continue
		}
		if l.torn() {
			panic(api.ErrCorrupt)
		}
		data, e := l.d.Read(file)
		fault.Must(e)
		records, size := good(data)
		l.segments = append(l.segments, segment{number: n, records: records, torn: size < len(data)})
	}
}

// settle mends the last segment, or leaves it torn if there is no room.
func (l *Log) settle() {
	if e := fault.Tried(l.mend); e != api.ErrFull {
		fault.Must(e)
	}
}

// mend leaves of the last segment its records alone. A copy takes its place at
// once, so that the power may fail at each step.
func (l *Log) mend() {
	if !l.torn() {
		return
	}
	s := l.last()
	fault.Must(atonce.Write(l.d, l.dir+ofMend, l.file(s.number), layAll(s.records)))
	s.torn = false
}

// create makes the segment behind the last one, and opens it.
func (l *Log) create() {
	n := l.Last() + 1
	if n > maxNumber {
		panic(api.ErrFull)
	}
	fault.Must(l.d.Create(l.file(n)))
	l.segments = append(l.segments, segment{number: n})
	l.open, l.bytes = true, 0
}

// sync makes sure of the open segment, if there is one.
func (l *Log) sync() {
	if l.open {
		fault.Must(l.d.Sync(l.file(l.last().number)))
	}
}

// leave makes sure of the open segment, and closes it.
func (l *Log) leave() {
	l.sync()
	l.open = false
}
