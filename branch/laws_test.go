package branch_test

import (
	"slices"
	"strconv"
	"strings"
	"testing"

	"stemma/api"
	"stemma/branch"
)

// model is the chapter told as plainly as can be, to hold the table against: branches, by their names.
type model []api.Branch

func (m model) at(name string) int {
	return slices.IndexFunc(m, func(b api.Branch) bool { return b.Name == name })
}

// rises tells whether hashes rise, digit by digit, and are not too many.
func rises(l []api.Hash) bool {
	for i := 1; i < len(l); i++ {
		if string(l[i-1][:]) >= string(l[i][:]) {
			return false
		}
	}
	return len(l) <= 16
}

// isName tells whether a text is a name.
func isName(s string) bool {
	const may = "abcdefghijklmnopqrstuvwxyzABCDEFGHIJKLMNOPQRSTUVWXYZ0123456789._-"
	return s != "" && s != "-" && len(s) <= 32 && strings.Trim(s, may) == ""
}

// kinds of calls.
const (
	kindCreate = iota
	kindMove
	kindDelete
)

// refusal tells why a call is refused, by the chapter's order.
func (m model) refusal(kind int, name string, heads []api.Hash) api.Errno {
	there := m.at(name) >= 0
	switch {
	case kind == kindCreate && !isName(name):
		return api.ErrName
	case kind != kindCreate && !there:
		return api.ErrBranch
	case kind != kindDelete && !rises(heads):
		return api.ErrDeps
	case kind == kindCreate && there:
		return api.ErrThere
	case kind == kindCreate && len(m) == 64:
		return api.ErrFull
	}
	return api.OK
}

// call tells what is there behind a call, and its answer.
func (m model) call(kind int, name string, heads []api.Hash) (model, api.Errno) {
	if e := m.refusal(kind, name, heads); e != api.OK {
		return m, e
	}
	next := slices.DeleteFunc(slices.Clone(m), func(b api.Branch) bool { return b.Name == name })
	if kind != kindDelete {
		next = append(next, api.Branch{Name: name, Heads: heads})
	}
	slices.SortFunc(next, func(a, b api.Branch) int { return strings.Compare(a.Name, b.Name) })
	return next, api.OK
}

// random is numbers that look as if there were no rule, the same at each run.
type random uint64

func (r *random) below(n int) int {
	*r = *r*6364136223846793005 + 1442695040888963407
	return int(uint64(*r) >> 33 % uint64(n))
}

// name tells one of n names, or seldom a text that is none.
func (r *random) name(n int) string {
	if r.below(20) == 0 {
		return noNames()[r.below(len(noNames()))]
	}
	return "b" + strconv.Itoa(r.below(n))
}

// heads tells hashes that rise, or seldom some that may not be heads.
func (r *random) heads() []api.Hash {
	if r.below(10) == 0 {
		return noHeads()[r.below(len(noHeads()))]
	}
	var l []api.Hash
	first := 0
	for b := range r.below(api.MaxDeps + 2) {
		first += r.below(3)
		l = append(l, api.Hash{byte(first), byte(b)})
	}
	return l
}

// call does a call to a table.
func call(b *branch.Table, kind int, name string, heads []api.Hash) api.Errno {
	switch kind {
	case kindCreate:
		return b.Create(name, heads)
	case kindMove:
		return b.Move(name, heads)
	}
	return b.Delete(name)
}

// without tells branches but the one of a name.
func without(l []api.Branch, name string) []api.Branch {
	return slices.DeleteFunc(slices.Clone(l), func(x api.Branch) bool { return x.Name == name })
}

// P15.1, P15.2, P15.4: long rows of calls, at each of which the table tells what the chapter does, and changes in what is named alone, if at all.
func TestLikeTheModel(t *testing.T) {
	met := map[api.Errno]int{}
	for seed := range 90 {
		r := random(seed)
		names := []int{3, 20, 90}[seed%3]
		b, m := branch.New(), model(nil)
		for range 300 {
			kind, name, heads := []int{kindCreate, kindCreate, kindMove, kindDelete}[r.below(4)], r.name(names), r.heads()
			if names == 90 && kind == kindDelete && r.below(4) > 0 {
				kind = kindCreate // so that it gets full
			}
			ahead := b.List()
			next, want := m.call(kind, name, heads)
			got := call(b, kind, name, heads)
			behind := b.List()
			if got != want {
				t.Fatalf("row %d: the table answers %d, the model %d", seed, int(got), int(want))
			}
			if got != api.OK && !alike(behind, ahead) || !alike(without(behind, name), without(ahead, name)) {
				t.Fatalf("row %d: a call of %q that answered %d changed %s to %s", seed, name, int(got), told(ahead), told(behind))
			}
			m = next
			met[got]++
			if expectTable(t, "row "+strconv.Itoa(seed), b, m...); t.Failed() {
				return
			}
		}
	}
	for _, e := range []api.Errno{api.OK, api.ErrName, api.ErrDeps, api.ErrThere, api.ErrFull, api.ErrBranch} {
		if met[e] < 50 {
			t.Errorf("%d was answered %d times: the rows ask too little", int(e), met[e])
		}
	}
}

// P15.2, P15.4: a table, its fork and the table that Load makes of its List are the same, go on alike, and have nothing in common.
func TestForkAndLoad(t *testing.T) {
	for seed := range 90 {
		r := random(seed + 1000)
		names := []int{3, 20, 90}[seed%3]
		b := branch.New()
		for range r.below(200) {
			call(b, []int{kindCreate, kindCreate, kindMove, kindDelete}[r.below(4)], r.name(names), r.heads())
		}
		want := b.List()
		tables := []*branch.Table{b, b.Fork(), load(t, want...), load(t, b.Fork().List()...)}
		for i, table := range tables {
			if !branch.Same(table.List(), want) {
				t.Fatalf("row %d, table %d: %s\nwant %s", seed, i, told(table.List()), told(want))
			}
		}
		for range 60 {
			kind, name, heads := r.below(3), r.name(names), r.heads()
			first := call(tables[0], kind, name, heads)
			for i, table := range tables[1:] {
				if alike(table.List(), tables[0].List()) && first == api.OK && kind != kindMove {
					t.Fatalf("row %d, table %d: what was done with another one is seen in it", seed, i+1)
				}
				expectErrno(t, "the same call", call(table, kind, name, heads), first)
				expectTable(t, "behind the same call", table, tables[0].List()...)
			}
			if t.Failed() {
				t.Fatalf("row %d", seed)
			}
		}
	}
}
