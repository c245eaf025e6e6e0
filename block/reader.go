package block

import (
	"bedrock/api"
	"bedrock/raw"
)

// read takes a block apart. What Build would not have laid so, whatever it is,
// is given up by a panic with ErrCorrupt, which Parse recovers.
func read(b string) [][2]string {
	must(len(b) >= end && len(b) <= maxBlock)
	summed, sum := b[:len(b)-width], b[len(b)-width:]
	must(unfixed(sum) == raw.Sum(summed))
	pairs, count := summed[:len(b)-end], summed[len(b)-end:]
	r := reader{rest: pairs}
	for r.rest != "" {
		r.pair()
	}
	must(unfixed(count) == len(r.l))
	return r.l
}

// must gives up, if what Build would have laid is not there.
func must(ok bool) {
	if !ok {
		panic(api.ErrCorrupt)
	}
}

// unfixed tells the number that fixed told as bytes.
func unfixed(b string) int {
	n, e := raw.Get(b)
	must(e == api.OK)
	return n
}

// reader takes pairs from the first one on.
type reader struct {
	rest  string      // what is not taken yet
	l     [][2]string // what is
	ahead string      // the last one's key
}

// pair takes a pair, which Build can have laid just so behind the one ahead.
func (r *reader) pair() {
	shared, left, size := r.number(), r.number(), r.number()
	must(shared <= len(r.ahead))
	key := r.ahead[:shared] + r.take(left)
	value := r.take(size)
	must(len(key) <= api.MaxBytes && len(value) <= api.MaxBytes)
	must(len(r.l) == 0 || raw.Compare(r.ahead, key) < 0)
	must(shared == common(len(r.l), r.ahead, key))
	r.l = append(r.l, [2]string{key, value})
	r.ahead = key
}

// number takes a number.
func (r *reader) number() int {
	n, size, e := raw.GetVar(r.rest)
	must(e == api.OK)
	r.take(size)
	return n
}

// take takes so many bytes.
func (r *reader) take(n int) string {
	must(n <= len(r.rest))
	b := r.rest[:n]
	r.rest = r.rest[n:]
	return b
}
