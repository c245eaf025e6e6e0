package block

import (
	"bedrock/apart"
	"bedrock/api"
	"bedrock/raw"
)

// read takes a block apart. What Build would not have laid so, whatever it is,
// is given up by a panic with ErrCorrupt, which Parse recovers.
func read(b string) [][2]string {
	whole := apart.New(b, api.ErrCorrupt)
	whole.Need(len(b) <= maxBlock)
	r := reader{Reader: apart.New(whole.Take(len(b)-end), api.ErrCorrupt)}
	count := whole.Fixed(width)
	whole.Need(whole.Fixed(width) == raw.Sum(b[:len(b)-width]))
	for r.Rest() != "" {
		r.pair()
	}
	r.Need(count == len(r.l))
	return r.l
}

// reader takes pairs from the first one on.
type reader struct {
	*apart.Reader
	l     [][2]string // what is taken
	ahead string      // the last one's key
}

// pair takes a pair, which Build can have laid just so behind the one ahead.
func (r *reader) pair() {
	shared, left, size := r.Number(), r.Number(), r.Number()
	r.Need(shared <= len(r.ahead))
	key := r.ahead[:shared] + r.Take(left)
	value := r.Take(size)
	r.Need(len(key) <= api.MaxBytes && len(value) <= api.MaxBytes)
	r.Need(len(r.l) == 0 || raw.Compare(r.ahead, key) < 0)
	r.Need(shared == common(len(r.l), r.ahead, key))
	r.l = append(r.l, [2]string{key, value})
	r.ahead = key
}
