package disk_test

import (
	"slices"
	"sort"
	"testing"

	"stemma/api"
	"stemma/disk"
)

// cell is one byte of a file of the model.
type cell struct {
	b     byte
	loose bool
}

// model is the chapter told byte by byte, as plainly as can be, to hold the disk against.
type model struct {
	room   int
	names  []string // in no order
	files  [][]cell
	steps  int
	down   bool
	failAt int // the step in which the power fails, by how many are ahead of it; -1: in none
	done   bool
}

func (m *model) at(name string) int { return slices.Index(m.names, name) }

func (m *model) used() int {
	n := 0
	for _, f := range m.files {
		n += len(f)
	}
	return n
}

func (m *model) drop(i int) {
	m.names = slices.Delete(m.names, i, i+1)
	m.files = slices.Delete(m.files, i, i+1)
}

// clone tells a model of its own.
func (m *model) clone() *model {
	c := *m
	c.names = slices.Clone(m.names)
	c.files = nil
	for _, f := range m.files {
		c.files = append(c.files, slices.Clone(f))
	}
	return &c
}

// kinds of calls of the model's test.
const (
	kindCreate = iota
	kindAppend
	kindSync
	kindRename
	kindRemove
	kindCut
	kinds
)

// own tells the error of a call's own.
func (m *model) own(kind int, name string, p []byte, n int) api.Errno {
	i := m.at(name)
	switch {
	case kind == kindCreate && i >= 0:
		return api.ErrThere
	case kind == kindCreate && len(m.names) == 64:
		return api.ErrFull
	case kind != kindCreate && i < 0:
		return api.ErrNone
	case kind == kindAppend && m.used()+len(p) > m.room:
		return api.ErrFull
	case kind == kindCut && (n < 0 || n > len(m.files[i])):
		return api.ErrArg
	}
	return api.OK
}

// effect does what a call does.
func (m *model) effect(kind int, name, now string, p []byte, n int) {
	i := m.at(name)
	switch kind {
	case kindCreate:
		m.names = append(m.names, name)
		m.files = append(m.files, nil)
	case kindAppend:
		for _, b := range p {
			m.files[i] = append(m.files[i], cell{b, true})
		}
	case kindSync:
		for at := range m.files[i] {
			m.files[i][at].loose = false
		}
	case kindRename:
		if name == now {
			return
		}
		if j := m.at(now); j >= 0 {
			m.drop(j)
		}
		m.names[m.at(name)] = now
	case kindRemove:
		m.drop(i)
	case kindCut:
		m.files[i] = m.files[i][:n]
		m.effect(kindSync, name, "", nil, 0)
	}
}

// call does a call, or tells why not.
func (m *model) call(kind int, name, now string, p []byte, n int) api.Errno {
	if m.down {
		return api.ErrDown
	}
	if e := m.own(kind, name, p, n); e != api.OK {
		return e
	}
	if m.steps == m.failAt {
		m.down = true
		if kind == kindAppend || m.done && kind != kindSync {
			m.effect(kind, name, now, p, n)
		}
		return api.ErrDown
	}
	m.steps++
	m.effect(kind, name, now, p, n)
	return api.OK
}

func (m *model) fail(n int, done bool) api.Errno {
	switch {
	case m.down:
		return api.ErrDown
	case n < 0:
		return api.ErrArg
	}
	m.failAt, m.done = m.steps+n, done
	return api.OK
}

func (m *model) start(keep []byte) {
	m.down, m.failAt = false, -1
	names := slices.Clone(m.names)
	sort.Strings(names)
	for _, name := range names {
		i := m.at(name)
		keep = m.startFile(i, keep)
	}
}

// startFile goes through a file's loose bytes one by one, and tells what is left of keep.
func (m *model) startFile(i int, keep []byte) []byte {
	f := m.files[i]
	end, stays := 0, 0
	for at := range f {
		if !f[at].loose {
			end = at + 1
			continue
		}
		if at%16 == 0 || at == 0 || !f[at-1].loose { // a piece begins
			length := 1
			for at+length < len(f) && (at+length)%16 != 0 {
				length++
			}
			stays = 0
			if len(keep) > 0 {
				stays = int(keep[0]) % (length + 1)
				if keep[0] == 255 {
					stays = length
				}
				keep = keep[1:]
			}
		}
		if stays > 0 {
			stays--
			end = at + 1
		} else {
			f[at].b = 0
		}
		if at+1 < len(f) && f[at+1].loose != f[at].loose {
			panic("safe bytes behind loose ones")
		}
	}
	m.files[i] = f[:end]
	m.effect(kindSync, m.names[i], "", nil, 0)
	return keep
}

// expectLike asks whether a disk tells what the model tells.
func expectLike(t *testing.T, what string, d *disk.Disk, m *model) {
	t.Helper()
	names := slices.Clone(m.names)
	sort.Strings(names)
	if !slices.Equal(d.List(), names) || d.Used() != m.used() || d.Down() != m.down || d.Steps() != m.steps {
		t.Fatalf("%s: List %q, Used %d, Down %v, Steps %d; want %q, %d, %v, %d",
			what, d.List(), d.Used(), d.Down(), d.Steps(), names, m.used(), m.down, m.steps)
	}
	for i, name := range m.names {
		got, e := d.Read(name)
		if m.down {
			if e != api.ErrDown || len(got) != 0 {
				t.Fatalf("%s: Read(%s) = %q, %d", what, name, got, int(e))
			}
			continue
		}
		var want []byte
		for _, c := range m.files[i] {
			want = append(want, c.b)
		}
		if string(got) != string(want) || e != api.OK {
			t.Fatalf("%s: Read(%s) = %q, %d; want %q", what, name, got, int(e), want)
		}
	}
}

// random is numbers that look as if there were no rule, the same at each run.
type random uint64

func (r *random) below(n int) int {
	*r = *r*6364136223846793005 + 1442695040888963407
	return int(uint64(*r) >> 33 % uint64(n))
}

func (r *random) bytes(most int) []byte {
	b := make([]byte, r.below(most+1))
	for i := range b {
		b[i] = byte(1 + r.below(255))
	}
	return b
}

// keep tells bytes for Start, 0 and 255 more often than others.
func (r *random) keep() []byte {
	b := make([]byte, r.below(12))
	for i := range b {
		b[i] = []byte{0, 255, byte(r.below(256)), byte(r.below(18))}[r.below(4)]
	}
	return b
}

func onDisk(d *disk.Disk, kind int, name, now string, p []byte, n int) api.Errno {
	return []func() api.Errno{
		func() api.Errno { return d.Create(name) },
		func() api.Errno { return d.Append(name, p) },
		func() api.Errno { return d.Sync(name) },
		func() api.Errno { return d.Rename(name, now) },
		func() api.Errno { return d.Remove(name) },
		func() api.Errno { return d.Cut(name, n) },
	}[kind]()
}

// turn does one thing, the same to a disk and to the model.
func turn(t *testing.T, r *random, d *disk.Disk, m *model, names []string) (*disk.Disk, *model) {
	t.Helper()
	var got, want api.Errno
	switch pick := r.below(24); {
	case pick == 0 || m.down && pick < 8:
		keep := r.keep()
		d.Start(keep)
		m.start(keep)
	case pick == 1:
		n, done := r.below(8)-1, r.below(2) == 0
		got, want = d.Fail(n, done), m.fail(n, done)
	case pick == 2:
		left, leftModel := d, m.clone()
		d = d.Clone()
		turn(t, r, left, leftModel, names) // what is done with the first is not to be seen in the clone
	default:
		kind, name, now := []int{kindCreate, kindAppend, kindAppend, kindAppend, kindSync, kindRename, kindRemove, kindCut}[r.below(8)], names[r.below(len(names))], names[r.below(len(names))]
		p, n := r.bytes(50), r.below(70)-2
		got, want = onDisk(d, kind, name, now, p, n), m.call(kind, name, now, p, n)
	}
	if got != want {
		t.Fatalf("the disk answers %d, the model %d", int(got), int(want))
	}
	return d, m
}

// P5.2 to P5.6: long rows of calls, at each of which the disk tells what the chapter does.
func TestLikeTheModel(t *testing.T) {
	names := []string{"a", "b", "A", "bb", "~"}
	for seed := range 300 {
		r := random(seed)
		room := 20 + r.below(400)
		d, m := disk.New(room), &model{room: room, failAt: -1}
		for range 200 {
			d, m = turn(t, &r, d, m, names)
			expectLike(t, "a turn", d, m)
		}
	}
}
