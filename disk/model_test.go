package disk_test

import (
	"maps"
	"math/rand"
	"slices"
	"strings"
	"testing"

	"bedrock/api"
	"bedrock/disk"
)

// model is a disk as the document tells of it, all of it counted anew each time.
type model struct {
	on          bool
	sure, loose map[string]string // what is synced, and what stands behind it
	quota, acts int
	fuse        int // below 0: none
	cuts        []int
	flip        int
}

func newModel() *model {
	return &model{on: true, sure: map[string]string{}, loose: map[string]string{}, quota: -1, fuse: -1}
}

func (m *model) names() []string { return slices.Sorted(maps.Keys(m.sure)) }

func (m *model) used() int {
	n := 0
	for name := range m.sure {
		n += len(m.sure[name]) + len(m.loose[name])
	}
	return n
}

// refuse tells why an act is refused, ahead of the fuse.
func (m *model) refuse(s step) api.Errno {
	if !m.on {
		return api.ErrOff
	}
	if s.name == "A" || s.kind == 3 && s.to == "A" {
		return api.ErrName
	}
	_, there := m.sure[s.name]
	switch {
	case s.kind == 0 && there:
		return api.ErrThere
	case s.kind != 0 && !there:
		return api.ErrNone
	case s.kind == 1 && s.data != "" && m.quota >= 0 && m.used()+len(s.data) > m.quota:
		return api.ErrFull
	}
	return api.OK
}

// do does one step, and tells what it answers.
func (m *model) do(s step) api.Errno {
	switch s.kind {
	case 5:
		m.crash(s.cuts, s.flip)
		return api.OK
	case 6:
		m.on = true
		return api.OK
	case 7:
		m.fuse, m.cuts, m.flip = max(s.n, -1), s.cuts, s.flip
		return api.OK
	case 8:
		m.quota = s.n
		return api.OK
	}
	if e := m.refuse(s); e != api.OK {
		return e
	}
	if m.fuse == 0 {
		m.fuse = -1
		m.crash(m.cuts, m.flip)
		return api.ErrOff
	}
	if m.fuse > 0 {
		m.fuse--
	}
	m.acts++
	m.act(s)
	return api.OK
}

func (m *model) act(s step) {
	switch s.kind {
	case 0:
		m.sure[s.name], m.loose[s.name] = "", ""
	case 1:
		m.loose[s.name] += s.data
	case 2:
		m.sure[s.name], m.loose[s.name] = m.sure[s.name]+m.loose[s.name], ""
	case 3:
		if s.name != s.to {
			m.sure[s.to], m.loose[s.to] = m.sure[s.name], m.loose[s.name]
			delete(m.sure, s.name)
			delete(m.loose, s.name)
		}
	case 4:
		delete(m.sure, s.name)
		delete(m.loose, s.name)
	}
}

func (m *model) crash(cuts []int, flip int) {
	if !m.on {
		return
	}
	m.on = false
	for i, name := range m.names() {
		kept := ""
		if len(cuts) > 0 && cuts[i%len(cuts)] > 0 {
			kept = m.loose[name][:min(len(m.loose[name]), cuts[i%len(cuts)])]
		}
		if kept != "" && flip > 0 && flip < 256 {
			last := len(kept) - 1
			kept = kept[:last] + string([]byte{kept[last] ^ byte(flip)})
		}
		m.sure[name] += kept
		m.loose[name] = ""
	}
}

// step is something that happens to a disk.
type step struct {
	kind           int
	name, to, data string
	n, flip        int
	cuts           []int
}

func some(r *rand.Rand) step {
	pick := func(l string) string { return strings.Fields(l)[r.Intn(len(strings.Fields(l)))] }
	s := step{kind: r.Intn(9), name: pick("a b b/1 c-_.9 A"), to: pick("a b b/1 c-_.9 a b A"), data: "abcdefgh"[:r.Intn(9)], flip: r.Intn(300) - 20, n: r.Intn(20) - 6}
	if s.kind > 4 && r.Intn(3) > 0 {
		s.kind = 6
	}
	if s.kind == 8 {
		s.n *= 3
	}
	for range r.Intn(4) {
		s.cuts = append(s.cuts, r.Intn(12)-3)
	}
	return s
}

// do does one step to a disk.
func do(d *disk.Disk, s step) api.Errno {
	switch s.kind {
	case 0:
		return d.Create(s.name)
	case 1:
		return d.Append(s.name, s.data)
	case 2:
		return d.Sync(s.name)
	case 3:
		return d.Rename(s.name, s.to)
	case 4:
		return d.Remove(s.name)
	case 5:
		d.Crash(s.cuts, s.flip)
	case 6:
		d.Restore()
	case 7:
		d.Fuse(s.n, s.cuts, s.flip)
	case 8:
		d.Quota(s.n)
	}
	return api.OK
}

// differs tells in what a disk is not as its model.
func differs(d *disk.Disk, m *model) string {
	if d.On() != m.on || d.Used() != m.used() || d.Acts() != m.acts {
		return "power, bytes or acts"
	}
	u := d.Twin()
	u.Restore()
	if !slices.Equal(u.List(""), m.names()) {
		return "names"
	}
	for name := range m.sure {
		want := m.sure[name] + m.loose[name]
		if data, e := u.Read(name); data != want || e != api.OK {
			return "bytes of " + name
		}
	}
	u.Crash(nil, 0)
	u.Restore()
	for name, want := range m.sure {
		if data, e := u.Read(name); data != want || e != api.OK {
			return "synced bytes of " + name
		}
	}
	return ""
}

// P701 to P704: whatever happens, it is as the document tells.
func TestDiskIsAsItsModel(t *testing.T) {
	for seed := range int64(300) {
		r := rand.New(rand.NewSource(seed))
		d, m := disk.New(), newModel()
		for i := range 120 {
			s := some(r)
			if e, want := do(d, s), m.do(s); e != want {
				t.Fatalf("seed %d, step %d, %+v: %d, not %d", seed, i, s, e, want)
			}
			if what := differs(d, m); what != "" {
				t.Fatalf("seed %d, step %d, %+v: other %s", seed, i, s, what)
			}
			// On with a twin: it has all that the first one had, the fuse and the quota too.
			if i%10 == 9 {
				d = d.Twin()
			}
		}
	}
}
