package wal_test

import (
	"fmt"
	"math/rand"
	"slices"
	"strconv"
	"strings"
	"testing"

	"bedrock/api"
	"bedrock/disk"
	"bedrock/wal"
)

// life is a log whose power fails whenever it likes, and what may be read of it.
type life struct {
	t       *testing.T
	r       *rand.Rand
	d       *disk.Disk
	l       *wal.Log
	size    int
	records []string // that were appended; each begins with a number of its own
	in      []int    // the segment of each
	sure    int      // so many of them were synced
	gone    int      // so many of them were dropped; as many as sure at most
	going   int      // so many of them may have been dropped
	next    int
	log     []string // what happened
}

// fuse lets the power fail some acts later, or not.
func (f *life) fuse() {
	n := f.r.Intn(12) - 3
	cuts := make([]int, f.r.Intn(4))
	for i := range cuts {
		cuts[i] = f.r.Intn(30) - 2
	}
	f.d.Fuse(n, cuts, f.r.Intn(4)*f.r.Intn(90))
	f.say("Fuse", n, cuts)
}

func (f *life) say(what ...any) { f.log = append(f.log, fmt.Sprintln(what...)) }

func (f *life) fatal(what ...any) {
	f.t.Helper()
	f.t.Fatal(strings.Join(f.log, ""), fmt.Sprintln(what...))
}

// reopen opens the log till it is told OK, with the power failing in between.
func (f *life) reopen() {
	for {
		if !f.d.On() {
			f.d.Restore()
			f.fuse()
		}
		l, e := wal.Open(f.d, "a", f.size)
		f.say("Open", e)
		if e == api.OK {
			f.l = l
			f.read()
			return
		}
		if e != api.ErrOff || l != nil || f.d.On() {
			f.fatal("Open:", l, e)
		}
	}
}

// read holds the log's records against what may be there; what is not there is nowhere any more.
func (f *life) read() {
	got := f.l.Records(0)
	from, to := f.going, f.going
	if len(got) > 0 {
		from = slices.Index(f.records, got[0])
		to = from + len(got)
	}
	if from < f.gone || from > f.going || to < f.sure || to > len(f.records) || !slices.Equal(got, f.records[from:to]) {
		f.fatal("read", got, "of", f.records, "where", f.gone, "to", f.going, "are gone and", f.sure, "are sure")
	}
	f.records, f.in = f.records[from:to], f.in[from:to]
	f.sure, f.gone, f.going = max(f.sure-from, 0), 0, 0
}

func (f *life) append() {
	f.next++
	rec := strconv.Itoa(f.next) + strings.Repeat(".", f.r.Intn(12))
	e := f.l.Append(rec)
	f.say("Append", rec, e)
	switch e {
	case api.OK:
		f.records, f.in = append(f.records, rec), append(f.in, f.l.Last())
	case api.ErrFull, api.ErrOff:
	default:
		f.fatal("Append", e)
	}
}

// drop drops all segments but the last one; all of them, if it is not open.
func (f *life) drop() {
	below := f.l.Last()
	if f.l.Rotate() == api.OK {
		f.sure = len(f.records)
		below += f.r.Intn(2)
	}
	for f.going = 0; f.going < len(f.in) && f.in[f.going] < below; {
		f.going++
	}
	e := f.l.Drop(below)
	f.say("Drop", below, e)
	if e == api.OK {
		f.gone = f.going
		f.read()
	}
}

func (f *life) sync() api.Errno {
	e := f.l.Sync()
	f.say("Sync", e)
	if e == api.OK {
		f.sure = len(f.records)
	}
	return e
}

// step does something.
func (f *life) step() {
	switch k := f.r.Intn(24); {
	case k < 13:
		f.append()
	case k < 16:
		f.sync()
	case k == 16:
		e := f.l.Rotate()
		f.say("Rotate", e)
		if e == api.OK {
			f.sure = len(f.records)
		}
	case k == 17:
		f.drop()
	case k == 18:
		f.d.Quota(f.d.Used() + f.r.Intn(40))
		f.say("Quota")
	case k == 19:
		f.d.Quota(-1)
	case k == 20:
		if f.sync() == api.OK {
			f.reopen() // the power has not failed
		}
	case k == 21:
		f.d.Crash([]int{f.r.Intn(20), f.r.Intn(20), f.r.Intn(20)}, f.r.Intn(300))
		f.say("Crash")
	case k == 22:
		f.fuse()
	}
	if !f.d.On() {
		f.reopen()
	} else if got := f.l.Records(0); !slices.Equal(got, f.records) {
		f.fatal("read", got, "not", f.records)
	}
}

// P905: wherever the power fails.
func TestWhereverThePowerFails(t *testing.T) {
	for seed := range int64(3000) {
		f := &life{t: t, r: rand.New(rand.NewSource(seed)), d: disk.New()}
		f.size = 1 + f.r.Intn(60)
		f.reopen()
		for range 60 {
			f.step()
		}
	}
}

// P905: at each act, with each cut and some flips, of a row of calls and of the Opens behind it.
func TestAtEachAct(t *testing.T) {
	records := []string{"1", "", "22", "333", "", "4444", "5"}
	row := func(l *wal.Log) (appended, sure int) {
		for i, rec := range records {
			if l.Append(rec) != api.OK {
				return
			}
			appended++
			switch {
			case i%3 == 1 && l.Sync() == api.OK, i == 5 && l.Rotate() == api.OK:
				sure = appended
			}
		}
		return
	}
	for n := range 25 {
		for cut := range 40 {
			for _, flip := range []int{0, 1, 128, 255} {
				d := disk.New()
				l := open(t, d, 20)
				d.Fuse(n, []int{cut, cut / 2}, flip)
				appended, sure := row(l)
				d.Crash([]int{cut}, flip)
				for again := range 6 {
					d.Restore()
					d.Fuse(again, []int{cut}, flip)
					l, e := wal.Open(d, "a", 20)
					if e != api.OK && e != api.ErrOff {
						t.Fatalf("fuse %d, cut %d, flip %d: Open: %d", n, cut, flip, e)
					}
					d.Crash([]int{cut}, flip)
					got := l.Records(0)
					if e == api.OK && (len(got) < sure || len(got) > appended || !slices.Equal(got, records[:len(got)])) {
						t.Fatalf("fuse %d, cut %d, flip %d: %q, of %d records %d sure", n, cut, flip, got, appended, sure)
					}
				}
			}
		}
	}
}
