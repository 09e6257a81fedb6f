package patch_test

import (
	"math"
	"slices"
	"strings"
	"testing"

	"stemma/api"
	"stemma/patch"
)

// The chapter's first example.
func TestExampleOne(t *testing.T) {
	ab := text("t", 0, 0, "ab")
	expectApply(t, api.Doc{}, []api.Patch{ab}, `t"ab"`)
	expectApply(t, api.Doc{}, []api.Patch{ab, text("t", 1, 1, "")}, `t"a"`)
	expectNoApply(t, api.Doc{}, api.ErrForm, ab, text("t", 1, 1, ""), text("t", 3, 0, ""))
	expectApply(t, api.Doc{}, []api.Patch{gone("k")}, ``)
}

// full tells a document with two of each.
func full() api.Doc {
	return api.Doc{
		Entries: []api.Entry{{Key: "k", Values: []string{"v", "w"}}, {Key: "l", Values: []string{""}}},
		Counts:  []api.Count{{Key: "m", N: 0}, {Key: "n", N: -2}},
		Texts:   []api.Text{{Name: "t", Chars: "abcd"}, {Name: "u", Chars: "\x00"}},
	}
}

// what full says.
const fullSays = `k="v"|"w" l="" m:0 n:-2 t"abcd" u"\x00"`

// expectNoApply asks that patches are refused, and nothing else is told.
func expectNoApply(t *testing.T, d api.Doc, want api.Errno, l ...api.Patch) {
	t.Helper()
	if got, e := patch.Apply(d, l); len(got.Entries) != 0 || len(got.Counts) != 0 || len(got.Texts) != 0 || e != want {
		t.Errorf("Apply(%s, %s) = %s, %d, want %d", saying(d), telling(l), saying(got), int(e), int(want))
	}
}

// P13.2: documents that may be.
func TestCheck(t *testing.T) {
	long := strings.Repeat("z", api.MaxName)
	for what, d := range map[string]api.Doc{
		"nothing":     {},
		"empty lists": {Entries: []api.Entry{}, Counts: []api.Count{}, Texts: []api.Text{}},
		"all":         full(),
		"keys alone":  {Entries: full().Entries},
		"one name":    {Entries: []api.Entry{{Key: "a", Values: []string{"v"}}}, Counts: []api.Count{{Key: "a"}}, Texts: []api.Text{{Name: "a", Chars: "x"}}},
		"all names":   {Counts: []api.Count{{Key: "--"}, {Key: "-a"}, {Key: "."}, {Key: "0"}, {Key: "A"}, {Key: "Z"}, {Key: "_"}, {Key: "a"}, {Key: "a-"}, {Key: "a.b"}, {Key: "aa"}, {Key: "b"}, {Key: long}}},
		"great ones":  {Counts: []api.Count{{Key: "m", N: math.MaxInt}, {Key: "n", N: math.MinInt}}, Texts: []api.Text{{Name: "t", Chars: strings.Repeat("x", 100000)}}},
		"same values": {Entries: []api.Entry{{Key: "k", Values: []string{"v", "v", "a"}}}},
	} {
		if e := patch.Check(d); e != api.OK {
			t.Errorf("%s: %d", what, int(e))
		}
		expectApply(t, d, nil, saying(d))
	}
}

// P13.2: documents that may not be; Apply refuses them ahead of all patches.
func TestCheckRefuses(t *testing.T) {
	wrongs := map[string]func(d *api.Doc){
		"an entry without values":        func(d *api.Doc) { d.Entries[0].Values = nil },
		"the last without values":        func(d *api.Doc) { d.Entries[1].Values = []string{} },
		"a text without characters":      func(d *api.Doc) { d.Texts[0].Chars = "" },
		"the last without characters":    func(d *api.Doc) { d.Texts[1].Chars = "" },
		"entries that fall":              func(d *api.Doc) { slices.Reverse(d.Entries) },
		"counts that fall":               func(d *api.Doc) { slices.Reverse(d.Counts) },
		"texts that fall":                func(d *api.Doc) { slices.Reverse(d.Texts) },
		"an entry twice":                 func(d *api.Doc) { d.Entries[1] = d.Entries[0] },
		"a count twice":                  func(d *api.Doc) { d.Counts[1] = d.Counts[0] },
		"a text twice":                   func(d *api.Doc) { d.Texts[1] = d.Texts[0] },
		"the third entry below":          func(d *api.Doc) { d.Entries = append(d.Entries, api.Entry{Key: "a", Values: []string{"v"}}) },
		"the third count below the last": func(d *api.Doc) { d.Counts = append(d.Counts, api.Count{Key: "mm"}) },
	}
	for _, name := range []string{"", "-", "a b", "ä", "a\x00", strings.Repeat("z", api.MaxName+1)} {
		wrongs["an entry "+name] = func(d *api.Doc) { d.Entries = []api.Entry{{Key: name, Values: []string{"v"}}} }
		wrongs["a count "+name] = func(d *api.Doc) { d.Counts = []api.Count{{Key: name, N: 1}} }
		wrongs["a text "+name] = func(d *api.Doc) { d.Texts = []api.Text{{Name: name, Chars: "x"}} }
		wrongs["a last count "+name] = func(d *api.Doc) { d.Counts[1].Key = name }
	}
	for what, spoil := range wrongs {
		d := full()
		spoil(&d)
		if e := patch.Check(d); e != api.ErrArg {
			t.Errorf("%s: %d", what, int(e))
		}
		expectNoApply(t, d, api.ErrArg)
		expectNoApply(t, d, api.ErrArg, count("n", 1))
		expectNoApply(t, d, api.ErrArg, api.Patch{}, text("t", -1, 0, "")) // ahead of what a patch's error is
		if t.Failed() {
			t.Fatal(what)
		}
	}
}

// P13.2: what each kind of patch does to a document.
func TestApply(t *testing.T) {
	for _, x := range []struct {
		what string
		l    []api.Patch
		want string
	}{
		{"nothing", nil, fullSays},
		{"a new key", []api.Patch{key("kk", nil, "x")}, `k="v"|"w" kk="x" l="" m:0 n:-2 t"abcd" u"\x00"`},
		{"a key anew", []api.Patch{key("k", nil, "y", "", "y")}, `k="y"|""|"y" l="" m:0 n:-2 t"abcd" u"\x00"`},
		{"a key of one empty value", []api.Patch{key("k", nil, "")}, `k="" l="" m:0 n:-2 t"abcd" u"\x00"`},
		{"a key goes", []api.Patch{gone("k")}, `l="" m:0 n:-2 t"abcd" u"\x00"`},
		{"both keys go", []api.Patch{gone("k"), gone("l")}, `m:0 n:-2 t"abcd" u"\x00"`},
		{"a key that is not there goes", []api.Patch{gone("m"), gone("t")}, fullSays},
		{"a key goes and comes", []api.Patch{gone("k"), key("k", nil, "z")}, `k="z" l="" m:0 n:-2 t"abcd" u"\x00"`},
		{"a key comes and goes", []api.Patch{key("a", nil, "z"), gone("a")}, fullSays},
		{"a new count", []api.Patch{count("a", 7)}, `k="v"|"w" l="" a:7 m:0 n:-2 t"abcd" u"\x00"`},
		{"a new count of 0", []api.Patch{count("z", 0)}, `k="v"|"w" l="" m:0 n:-2 z:0 t"abcd" u"\x00"`},
		{"a count is, and is not added", []api.Patch{count("n", 5), count("n", 5)}, `k="v"|"w" l="" m:0 n:5 t"abcd" u"\x00"`},
		{"a count becomes 0", []api.Patch{count("n", 0)}, `k="v"|"w" l="" m:0 n:0 t"abcd" u"\x00"`},
		{"a count goes", []api.Patch{noCount("n")}, `k="v"|"w" l="" m:0 t"abcd" u"\x00"`},
		{"a count that is not there goes", []api.Patch{noCount("k"), noCount("t")}, fullSays},
		{"the greatest counts", []api.Patch{count("m", math.MaxInt), count("n", math.MinInt)}, `k="v"|"w" l="" m:9223372036854775807 n:-9223372036854775808 t"abcd" u"\x00"`},
		{"a new text", []api.Patch{text("s", 0, 0, "x")}, `k="v"|"w" l="" m:0 n:-2 s"x" t"abcd" u"\x00"`},
		{"a new text of nothing", []api.Patch{text("s", 0, 0, "")}, fullSays},
		{"a text goes", []api.Patch{text("t", 0, 4, "")}, `k="v"|"w" l="" m:0 n:-2 u"\x00"`},
		{"a text goes piece by piece", []api.Patch{text("t", 2, 2, ""), text("t", 0, 1, ""), text("t", 0, 1, "")}, `k="v"|"w" l="" m:0 n:-2 u"\x00"`},
		{"a text goes and comes", []api.Patch{text("u", 0, 1, ""), text("u", 0, 0, "y")}, `k="v"|"w" l="" m:0 n:-2 t"abcd" u"y"`},
		{"put at the beginning", []api.Patch{text("t", 0, 0, "x")}, `k="v"|"w" l="" m:0 n:-2 t"xabcd" u"\x00"`},
		{"put within", []api.Patch{text("t", 2, 0, "xy")}, `k="v"|"w" l="" m:0 n:-2 t"abxycd" u"\x00"`},
		{"put at the end", []api.Patch{text("t", 4, 0, "x")}, `k="v"|"w" l="" m:0 n:-2 t"abcdx" u"\x00"`},
		{"cut at the beginning", []api.Patch{text("t", 0, 2, "")}, `k="v"|"w" l="" m:0 n:-2 t"cd" u"\x00"`},
		{"cut to the end", []api.Patch{text("t", 1, 3, "")}, `k="v"|"w" l="" m:0 n:-2 t"a" u"\x00"`},
		{"cut nothing at the end", []api.Patch{text("t", 4, 0, "")}, fullSays},
		{"cut and put", []api.Patch{text("t", 1, 2, "xyz")}, `k="v"|"w" l="" m:0 n:-2 t"axyzd" u"\x00"`},
		{"all for another", []api.Patch{text("t", 0, 4, "x")}, `k="v"|"w" l="" m:0 n:-2 t"x" u"\x00"`},
		{"from the end to the beginning", []api.Patch{text("t", 4, 0, "5"), text("t", 3, 1, "4"), text("t", 1, 0, "1"), text("t", 0, 0, "0")}, `k="v"|"w" l="" m:0 n:-2 t"0a1bc45" u"\x00"`},
		{"to and fro", []api.Patch{text("t", 3, 1, "D"), text("t", 0, 1, "A"), text("t", 4, 0, "E"), text("t", 1, 2, ""), text("t", 2, 1, "f")}, `k="v"|"w" l="" m:0 n:-2 t"ADf" u"\x00"`},
		{"into what was just put", []api.Patch{text("t", 2, 0, "xyz"), text("t", 3, 1, "-")}, `k="v"|"w" l="" m:0 n:-2 t"abx-zcd" u"\x00"`},
		{"two in turn", []api.Patch{text("t", 1, 0, "x"), text("u", 1, 0, "y"), text("t", 3, 0, "z"), text("u", 0, 1, "")}, `k="v"|"w" l="" m:0 n:-2 t"axbzcd" u"y"`},
		{"one name of each kind", []api.Patch{key("x", nil, "1"), count("x", 2), text("x", 0, 0, "3")}, `k="v"|"w" l="" x="1" m:0 n:-2 x:2 t"abcd" u"\x00" x"3"`},
		{"bytes", []api.Patch{text("u", 1, 0, "\xff\xc3"), text("u", 3, 0, "\xa4")}, `k="v"|"w" l="" m:0 n:-2 t"abcd" u"\x00\xffä"`},
	} {
		expectApply(t, full(), x.l, x.want)
		if t.Failed() {
			t.Fatal(x.what)
		}
	}
}

// P13.2: patches that can't be, alone and behind others that can; nothing but the error is told.
func TestApplyRefuses(t *testing.T) {
	wrongs := map[string]api.Patch{
		"the zero one":                 {},
		"of no kind":                   {Kind: api.PatchNone, Name: "k"},
		"a kind beyond":                {Kind: api.PatchText + 1, Name: "k"},
		"a kind below":                 {Kind: -1, Name: "k"},
		"a kind far beyond":            {Kind: math.MaxInt, Name: "k"},
		"no values, and not gone":      {Kind: api.PatchKey, Name: "k"},
		"none of values, and not gone": {Kind: api.PatchKey, Name: "k", Values: []string{}},
		"values, and gone":             {Kind: api.PatchKey, Name: "k", Values: []string{"v"}, Gone: true},
		"an empty value, and gone":     {Kind: api.PatchKey, Name: "k", Values: []string{""}, Gone: true},
		"a count gone and more":        {Kind: api.PatchCount, Name: "n", By: 1, Gone: true},
		"a count gone and less":        {Kind: api.PatchCount, Name: "n", By: -2, Gone: true},
		"a text gone":                  {Kind: api.PatchText, Name: "t", Gone: true},
		"a text gone and cut":          {Kind: api.PatchText, Name: "t", Cut: 4, Gone: true},
		"a text that is none gone":     {Kind: api.PatchText, Name: "k", Gone: true},
		"at below 0":                   text("t", -1, 0, "x"),
		"at far below 0":               text("t", math.MinInt, 0, ""),
		"at behind the end":            text("t", 5, 0, "x"),
		"at behind the end, for none":  text("t", 5, 0, ""),
		"at far behind the end":        text("t", math.MaxInt, 0, ""),
		"cut below 0":                  text("t", 1, -1, ""),
		"cut far below 0":              text("t", 4, math.MinInt, ""),
		"cut beyond the end":           text("t", 0, 5, ""),
		"cut beyond the end from 1 on": text("t", 1, 4, "xyz"),
		"cut at the end":               text("t", 4, 1, ""),
		"cut far beyond the end":       text("t", 1, math.MaxInt, ""),
		"cut far beyond, at the end":   text("t", 4, math.MaxInt, ""),
		"at and cut beyond":            text("t", math.MaxInt, math.MaxInt, ""),
		"at and cut below":             text("t", math.MinInt, math.MinInt, ""),
		"at within, of a text of none": text("k", 1, 0, "x"),
		"cut of a text of none":        text("k", 0, 1, "x"),
	}
	for _, name := range []string{"", "-", "a b", "ä", "t\x00", strings.Repeat("z", api.MaxName+1)} {
		wrongs["the key "+name], wrongs["the count "+name], wrongs["the text "+name] = key(name, nil, "v"), count(name, 1), text(name, 0, 0, "x")
		wrongs["no key "+name], wrongs["no count "+name] = gone(name), noCount(name)
	}
	right := []api.Patch{key("a", nil, "x"), noCount("m"), text("u", 0, 1, ""), text("t", 2, 1, "xx"), text("t", 2, 1, "")}
	for what, p := range wrongs {
		expectNoApply(t, full(), api.ErrForm, p)
		expectNoApply(t, full(), api.ErrForm, append(slices.Clone(right), p)...)
		expectNoApply(t, full(), api.ErrForm, append([]api.Patch{p}, right...)...)
		if t.Failed() {
			t.Fatal(what)
		}
	}
	expectApply(t, full(), right, `a="x" k="v"|"w" l="" n:-2 t"abxd"`)
}

// P13.2: a text's length is the one by then, be it more than at first, less, or none.
func TestApplyByThen(t *testing.T) {
	expectApply(t, full(), []api.Patch{text("t", 4, 0, "xy"), text("t", 6, 0, "z")}, `k="v"|"w" l="" m:0 n:-2 t"abcdxyz" u"\x00"`)
	expectNoApply(t, full(), api.ErrForm, text("t", 4, 0, "xy"), text("t", 7, 0, "z"))
	expectApply(t, full(), []api.Patch{text("t", 0, 2, ""), text("t", 2, 0, "z")}, `k="v"|"w" l="" m:0 n:-2 t"cdz" u"\x00"`)
	expectNoApply(t, full(), api.ErrForm, text("t", 0, 2, ""), text("t", 3, 0, "z"))
	expectNoApply(t, full(), api.ErrForm, text("t", 0, 2, ""), text("t", 1, 2, ""))
	expectNoApply(t, full(), api.ErrForm, text("t", 3, 1, "x"), text("t", 0, 5, ""))
	expectApply(t, full(), []api.Patch{text("t", 3, 1, "xx"), text("t", 0, 5, "")}, `k="v"|"w" l="" m:0 n:-2 u"\x00"`)
	expectNoApply(t, full(), api.ErrForm, text("t", 0, 4, ""), text("t", 1, 0, "z"))
	expectNoApply(t, full(), api.ErrForm, text("t", 0, 4, ""), text("t", 0, 1, "z"))
}

// P13.2: what is not named for a kind is not looked at.
func TestApplyLooksAtNothingElse(t *testing.T) {
	from, values := []api.Hash{{1}, {2}, {3}}, []string{"v", "w"}
	for _, n := range []int{-1, 1, 99, math.MinInt, math.MaxInt} {
		expectApply(t, api.Doc{}, []api.Patch{{Kind: api.PatchKey, Name: "k", Values: values, By: n, At: n, Cut: n, Put: "x", From: from}}, `k="v"|"w"`)
		expectApply(t, full(), []api.Patch{{Kind: api.PatchKey, Name: "k", Gone: true, By: n, At: n, Cut: n, Put: "x", From: from}}, `l="" m:0 n:-2 t"abcd" u"\x00"`)
		expectApply(t, api.Doc{}, []api.Patch{{Kind: api.PatchCount, Name: "n", By: 4, Values: values, At: n, Cut: n, Put: "x", From: from}}, `n:4`)
		expectApply(t, full(), []api.Patch{{Kind: api.PatchCount, Name: "n", Gone: true, Values: values, At: n, Cut: n, Put: "x", From: from}}, `k="v"|"w" l="" m:0 t"abcd" u"\x00"`)
		expectApply(t, full(), []api.Patch{{Kind: api.PatchText, Name: "t", At: 1, Cut: 3, Put: "x", By: n, Values: values, From: from}}, `k="v"|"w" l="" m:0 n:-2 t"ax" u"\x00"`)
	}
}

// P13.3: each field plays a part, and the order; none of a list and an empty one are the same.
func TestSame(t *testing.T) {
	list := func() []api.Patch {
		return []api.Patch{
			{Kind: api.PatchKey, Name: "k", Values: []string{"v", "w"}, By: 1, At: 2, Cut: 3, Put: "p", From: []api.Hash{{1}, {2}}},
			{Kind: api.PatchText, Name: "t", Put: "x", From: []api.Hash{{1}}},
		}
	}
	if !patch.Same(list(), list()) || !patch.Same(nil, nil) || !patch.Same(nil, []api.Patch{}) || !patch.Same([]api.Patch{}, nil) {
		t.Error("the same are not the same")
	}
	bare, hollow := []api.Patch{{Kind: 9}}, []api.Patch{{Kind: 9, Values: []string{}, From: []api.Hash{}}}
	if !patch.Same(bare, hollow) || !patch.Same(hollow, bare) {
		t.Error("an empty list is another one than none")
	}
	for what, turn := range map[string]func(l []api.Patch) []api.Patch{
		"none":               func(l []api.Patch) []api.Patch { return nil },
		"one less":           func(l []api.Patch) []api.Patch { return l[:1] },
		"one more":           func(l []api.Patch) []api.Patch { return append(l, api.Patch{}) },
		"turned":             func(l []api.Patch) []api.Patch { slices.Reverse(l); return l },
		"one twice":          func(l []api.Patch) []api.Patch { l[1] = l[0]; return l },
		"another kind":       func(l []api.Patch) []api.Patch { l[0].Kind = api.PatchText; return l },
		"another name":       func(l []api.Patch) []api.Patch { l[0].Name = "x"; return l },
		"another value":      func(l []api.Patch) []api.Patch { l[0].Values[1] = "x"; return l },
		"values turned":      func(l []api.Patch) []api.Patch { slices.Reverse(l[0].Values); return l },
		"a value less":       func(l []api.Patch) []api.Patch { l[0].Values = l[0].Values[:1]; return l },
		"no values":          func(l []api.Patch) []api.Patch { l[0].Values = nil; return l },
		"an empty value":     func(l []api.Patch) []api.Patch { l[1].Values = []string{""}; return l },
		"another by":         func(l []api.Patch) []api.Patch { l[0].By = 9; return l },
		"gone":               func(l []api.Patch) []api.Patch { l[1].Gone = true; return l },
		"another at":         func(l []api.Patch) []api.Patch { l[0].At = 9; return l },
		"another cut":        func(l []api.Patch) []api.Patch { l[0].Cut = 9; return l },
		"another put":        func(l []api.Patch) []api.Patch { l[1].Put = "y"; return l },
		"nothing put":        func(l []api.Patch) []api.Patch { l[1].Put = ""; return l },
		"another from":       func(l []api.Patch) []api.Patch { l[0].From[1][31] = 1; return l },
		"from turned":        func(l []api.Patch) []api.Patch { slices.Reverse(l[0].From); return l },
		"one less in from":   func(l []api.Patch) []api.Patch { l[0].From = l[0].From[:1]; return l },
		"no from":            func(l []api.Patch) []api.Patch { l[1].From = nil; return l },
		"the last field too": func(l []api.Patch) []api.Patch { l[1].From = append(l[1].From, api.Hash{}); return l },
	} {
		l := turn(list())
		if patch.Same(list(), l) || patch.Same(l, list()) {
			t.Errorf("%s: the same", what)
		}
		if !patch.Same(l, l) {
			t.Errorf("%s: not the same as itself", what)
		}
	}
}
