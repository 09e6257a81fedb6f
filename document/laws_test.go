package document_test

import (
	"maps"
	"slices"
	"strconv"
	"strings"
	"testing"

	"stemma/api"
	"stemma/change"
	"stemma/dag"
	"stemma/document"
	"stemma/hashes"
	"stemma/view"
)

// model is the chapter told as plainly as can be, to hold the document against: a graph, and heads by the branches'
// names.
type model struct {
	g     *dag.Graph
	heads map[string][]api.Hash
}

// reduced tells those of hashes that are in no other one's past, each past asked by itself.
func (m *model) reduced(l []api.Hash) ([]api.Hash, api.Errno) {
	var left []api.Hash
	for _, h := range l {
		if !m.g.Has(h) {
			return nil, api.ErrUnknown
		}
		below := func(other api.Hash) bool {
			past, _ := m.g.Past([]api.Hash{other})
			return other != h && slices.Contains(past, h)
		}
		if !slices.ContainsFunc(l, below) && !slices.Contains(left, h) {
			left = append(left, h)
		}
	}
	return upon(left...), api.OK
}

// there tells ErrBranch, unless there are all these branches.
func (m *model) there(names ...string) api.Errno {
	for _, name := range names {
		if _, ok := m.heads[name]; !ok {
			return api.ErrBranch
		}
	}
	return api.OK
}

// commit is Commit, as P16.2 tells it.
func (m *model) commit(branch, author, note string, l []api.Op) (api.Hash, api.Errno) {
	if e := m.there(branch); e != api.OK {
		return api.Hash{}, e
	}
	if !hashes.Name(author) {
		return api.Hash{}, api.ErrName
	}
	seq, start, _ := m.g.Next(author, m.heads[branch])
	c := api.Change{Author: author, Seq: seq, Start: start, Deps: m.heads[branch], Note: note, Ops: l}
	if e := change.Check(c); e != api.OK {
		return api.Hash{}, e
	}
	h := change.Hash(c)
	if !m.g.Has(h) {
		b, _ := change.Put(c)
		if _, e := m.g.Add(b); e != api.OK { // full graphs are tested elsewhere
			return api.Hash{}, e
		}
	}
	m.heads[branch] = []api.Hash{h}
	return h, api.OK
}

// create is Create, as P16.4 and P15.1 tell it.
func (m *model) create(name, from string) api.Errno {
	switch {
	case m.there(from) != api.OK:
		return api.ErrBranch
	case !hashes.Name(name):
		return api.ErrName
	case m.there(name) == api.OK:
		return api.ErrThere
	case len(m.heads) == 64:
		return api.ErrFull
	}
	m.heads[name] = m.heads[from]
	return api.OK
}

// move is Move, as P16.4 and P15.1 tell it; Merge and Track end as it does.
func (m *model) move(name string, l []api.Hash) api.Errno {
	if e := m.there(name); e != api.OK {
		return e
	}
	heads, e := m.reduced(l)
	switch {
	case e != api.OK:
		return e
	case len(heads) > 16:
		return api.ErrDeps
	}
	m.heads[name] = heads
	return api.OK
}

// branches tells what Branches tells.
func (m *model) branches() []api.Branch {
	var l []api.Branch
	for _, name := range slices.Sorted(maps.Keys(m.heads)) {
		l = append(l, api.Branch{Name: name, Heads: m.heads[name]})
	}
	return l
}

// told tells what told tells of a document.
func (m *model) told() string { return toldBranches(m.branches()) + "\n" + toldGraph(m.g) }

// fork tells a model of its own.
func (m *model) fork() *model { return &model{m.g.Fork(), maps.Clone(m.heads)} }

// random is numbers that look as if there were no rule, the same at each run.
type random uint64

func (r *random) below(n int) int {
	*r = *r*6364136223846793005 + 1442695040888963407
	return int(uint64(*r) >> 33 % uint64(n))
}

// name tells one of few names, or seldom a text that is none.
func (r *random) name() string {
	if r.below(25) == 0 {
		return noNames()[r.below(len(noNames()))]
	}
	return []string{"main", "main", "b", "c", "d", "e.f"}[r.below(6)]
}

// ops tells a few operations, or seldom one that may not be.
func (r *random) ops() []api.Op {
	var l []api.Op
	for range r.below(4) {
		name, pos := []string{"k", "n", "t"}[r.below(3)], r.below(6)
		switch r.below(6) {
		case 0, 1:
			l = append(l, put(name, strconv.Itoa(r.below(1000))))
		case 2:
			l = append(l, add(name, r.below(9)-4))
		case 3, 4:
			l = append(l, ins(name, pos, strings.Repeat(string(rune('a'+r.below(26))), 1+r.below(3))))
		case 5:
			l = append(l, cut(name, pos, 1+r.below(3)))
		}
	}
	if r.below(30) == 0 {
		l = append(l, put("no name", ""))
	}
	return l
}

// author tells one of few authors, or seldom a text that is no name.
func (r *random) author() string {
	if r.below(25) == 0 {
		return noNames()[r.below(len(noNames()))]
	}
	return []string{"ann", "bob", "eve"}[r.below(3)]
}

// some tells a few hashes of a list, in any order, maybe one twice; seldom one that is nowhere.
func (r *random) some(from []api.Hash) []api.Hash {
	var l []api.Hash
	for range r.below(5) {
		if len(from) > 0 {
			l = append(l, from[r.below(len(from))])
		}
	}
	if r.below(20) == 0 {
		l = append(l, api.Hash{byte(r.below(256))})
	}
	return l
}

// play is a row of calls upon documents that hand one another changes, each held against its model.
type play struct {
	random
	docs   []*document.Document
	models []*model
	all    [][]byte // all changes that any document made
	hashes []api.Hash
	once   map[string]string // what was checked out of a document once, by its number and the heads
}

// step does a call to one of the documents and to its model.
func (p *play) step(t *testing.T) {
	t.Helper()
	at := p.below(len(p.docs))
	d, m := p.docs[at], p.models[at]
	ahead := told(d)
	what, got, want := p.call(t, d, m)
	if got != want {
		t.Fatalf("%s = %d, want %d", what, int(got), int(want))
	}
	behind := told(d)
	if behind != m.told() {
		t.Fatalf("behind %s:\n%s\nwant\n%s", what, behind, m.told())
	}
	if got != api.OK && behind != ahead {
		t.Fatalf("%s is refused, and changes\n%s\nto\n%s", what, ahead, behind)
	}
}

// call does any call to a document and to its model, and tells both answers.
func (p *play) call(t *testing.T, d *document.Document, m *model) (what string, got, want api.Errno) {
	t.Helper()
	name, other := p.name(), p.name()
	switch p.below(20) {
	case 0:
		return "Create(" + name + ", " + other + ")", d.Create(name, other), m.create(name, other)
	case 1:
		l := p.some(p.hashes)
		return "Move(" + name + short(l) + ")", d.Move(name, l), m.move(name, l)
	case 2:
		if p.below(6) > 0 {
			return "nothing", api.OK, api.OK
		}
		want = m.there(name)
		delete(m.heads, name)
		return "Delete(" + name + ")", d.Delete(name), want
	case 3, 4:
		if want = m.there(name, other); want == api.OK {
			want = m.move(name, slices.Concat(m.heads[name], m.heads[other]))
		}
		got = d.Merge(name, other)
		p.expectBoth(t, d, m, name, other, got)
		return "Merge(" + name + ", " + other + ")", got, want
	case 5:
		return "Track(" + name + ")", d.Track(name), m.move(name, m.g.Heads())
	case 6, 7, 8:
		if len(p.all) == 0 {
			return "nothing", api.OK, api.OK
		}
		b := p.all[p.below(len(p.all))]
		h, got := d.Receive(b)
		x, want := m.g.Add(b)
		expectHash(t, "Receive", h, got, x, want)
		return "Receive", got, want
	}
	author, l := p.author(), p.ops()
	h, got := d.Commit(name, author, "", l)
	x, want := m.commit(name, author, "", l)
	expectHash(t, "Commit", h, got, x, want)
	if got == api.OK {
		p.all, p.hashes = append(p.all, bytesOf(t, d, h)), append(p.hashes, h)
	}
	return "Commit(" + name + ", " + author + ")", got, want
}

// expectBoth asks that behind a Merge a branch says what both together say.
func (p *play) expectBoth(t *testing.T, d *document.Document, m *model, into, from string, e api.Errno) {
	t.Helper()
	if e != api.OK {
		return
	}
	want, e := view.At(m.g, slices.Concat(m.heads[into], m.heads[from]))
	done(t, "At", e)
	got, e := d.Read(into)
	expectDoc(t, "Read behind Merge", got, e, want)
}

// look asks one of the documents for what it says somewhere.
func (p *play) look(t *testing.T) {
	t.Helper()
	at := p.below(len(p.docs))
	d, m := p.docs[at], p.models[at]
	heads := p.some(p.hashes)
	want, e := view.At(m.g, heads)
	got, x := d.Checkout(heads)
	if x != e || !view.Same(got, want) {
		t.Fatalf("Checkout%s = %d\n%s\nwant %d\n%s", short(heads), int(x), toldDoc(got), int(e), toldDoc(want))
	}
	if e == api.OK {
		key := strconv.Itoa(at) + short(heads)
		if was, been := p.once[key]; been && was != toldDoc(got) {
			t.Fatalf("Checkout%s was\n%s\nand is\n%s", short(heads), was, toldDoc(got))
		}
		p.once[key] = toldDoc(got)
		spoilDoc(got)
	}
	name := p.name()
	if m.there(name) != api.OK {
		got, e := d.Read(name)
		expectNoDoc(t, "Read", got, e, api.ErrBranch)
		return
	}
	expectLooks(t, d, m.heads[name], m.heads[name])
	want, _ = view.At(m.g, m.heads[name])
	got, e = d.Read(name)
	expectDoc(t, "Read("+name+")", got, e, want)
}

// split puts a fork, or what is loaded of a document, in the place of another document.
func (p *play) split(t *testing.T) {
	t.Helper()
	from, to := p.below(len(p.docs)), p.below(len(p.docs))
	d, m := p.docs[from], p.models[from]
	if p.below(2) == 0 || len(d.Graph().Waiting()) > 0 {
		p.docs[to], p.models[to] = d.Fork(), m.fork()
	} else {
		p.docs[to], p.models[to] = load(t, d.Branches(), allBytes(d)), m.fork()
	}
	maps.DeleteFunc(p.once, func(key, _ string) bool { return strings.HasPrefix(key, strconv.Itoa(to)+"(") })
}

// expectAgreement asks that documents that have the same changes, in whatever order they came, say the same at the
// same heads.
func (p *play) expectAgreement(t *testing.T) {
	t.Helper()
	one, other := document.New(), document.New()
	for _, d := range []*document.Document{one, other} {
		for d.Graph().Len() < count(p.hashes) {
			d.Receive(p.all[p.below(len(p.all))])
		}
	}
	expectErrno(t, "Track", one.Track("main"), other.Track("main")) // there may be too many heads
	if told(one) != told(other) {
		t.Fatalf("the same changes make\n%s\nand\n%s", told(one), told(other))
	}
	for range 20 {
		heads := p.some(p.hashes)
		x, e := one.Checkout(heads)
		y, f := other.Checkout(heads)
		if e != f || !view.Same(x, y) {
			t.Fatalf("one says %d\n%s\nthe other one %d\n%s", int(e), toldDoc(x), int(f), toldDoc(y))
		}
	}
}

// count tells how many unlike hashes there are.
func count(l []api.Hash) int { return len(hashes.Sort(l)) }

// P16.2 to P16.6: long rows of calls to several documents, at each of which a document tells what the chapter does.
func TestLaws(t *testing.T) {
	rows := 60
	if testing.Short() {
		rows = 8
	}
	changes := 0
	for row := range rows {
		p := &play{random: random(row), once: map[string]string{}}
		for range 3 {
			p.docs = append(p.docs, document.New())
			p.models = append(p.models, &model{dag.New(), map[string][]api.Hash{"main": nil}})
		}
		for range 200 {
			p.step(t)
			if p.below(3) == 0 {
				p.look(t)
			}
			if p.below(25) == 0 {
				p.split(t)
			}
		}
		p.expectAgreement(t)
		changes += count(p.hashes)
	}
	if changes < 30*rows {
		t.Errorf("%d rows made %d changes alone", rows, changes)
	}
}
