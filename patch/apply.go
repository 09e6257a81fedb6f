package patch

import (
	"slices"

	"stemma/api"
	"stemma/hashes"
)

// draft is a document that patches are done to: what it has, by the names.
type draft struct {
	entries map[string]api.Entry
	counts  map[string]api.Count
	texts   map[string]text
}

// draftOf tells a document that may be as a draft.
func draftOf(d api.Doc) *draft {
	texts := map[string]text{}
	for _, t := range d.Texts {
		texts[t.Name] = text{behind: t.Chars}
	}
	return &draft{byName(d.Entries, keyOf), byName(d.Counts, countOf), texts}
}

// doc tells the document. The draft's values are others' lists, so they are taken anew.
func (d *draft) doc() api.Doc {
	var doc api.Doc
	for _, name := range names(d.entries) {
		doc.Entries = append(doc.Entries, api.Entry{Key: name, Values: slices.Clone(d.entries[name].Values)})
	}
	for _, name := range names(d.counts) {
		doc.Counts = append(doc.Counts, d.counts[name])
	}
	for _, name := range names(d.texts) {
		doc.Texts = append(doc.Texts, api.Text{Name: name, Chars: d.texts[name].chars()})
	}
	return doc
}

// apply does a patch, or refuses it and does nothing.
func (d *draft) apply(p api.Patch) api.Errno {
	if !hashes.Name(p.Name) {
		return api.ErrForm
	}
	switch p.Kind {
	case api.PatchKey:
		return d.applyKey(p)
	case api.PatchCount:
		return d.applyCount(p)
	case api.PatchText:
		return d.applyText(p)
	}
	return api.ErrForm
}

// applyKey gives a key its values, or takes it away.
func (d *draft) applyKey(p api.Patch) api.Errno {
	if p.Gone != (len(p.Values) == 0) {
		return api.ErrForm
	}
	d.entries[p.Name] = api.Entry{Key: p.Name, Values: p.Values}
	if p.Gone {
		delete(d.entries, p.Name)
	}
	return api.OK
}

// applyCount sets a count, or takes it away.
func (d *draft) applyCount(p api.Patch) api.Errno {
	if p.Gone && p.By != 0 {
		return api.ErrForm
	}
	d.counts[p.Name] = api.Count{Key: p.Name, N: p.By}
	if p.Gone {
		delete(d.counts, p.Name)
	}
	return api.OK
}

// applyText cuts from a text, and puts into it.
func (d *draft) applyText(p api.Patch) api.Errno {
	t := d.texts[p.Name]
	if p.Gone || p.At < 0 || p.At > t.size() || p.Cut < 0 || p.Cut > t.size()-p.At {
		return api.ErrForm
	}
	t = t.from(p.At)
	t.behind = t.behind[p.Cut:]
	t.ahead = append(t.ahead, p.Put...)
	d.texts[p.Name] = t
	if t.size() == 0 {
		delete(d.texts, p.Name)
	}
	return api.OK
}

// text is a text that patches are done to: what stands ahead of where the last one ended, and what stands behind that. Patches mostly come from the beginning to the end, so that what is behind need not be moved for each.
type text struct {
	ahead  []byte
	behind string
}

// size tells how many characters the text has.
func (t text) size() int { return len(t.ahead) + len(t.behind) }

// chars tells the characters.
func (t text) chars() string { return string(t.ahead) + t.behind }

// from tells the text with the place at between ahead and behind; t itself is not to be used any more.
func (t text) from(at int) text {
	if at < len(t.ahead) {
		return text{t.ahead[:at], string(t.ahead[at:]) + t.behind}
	}
	n := at - len(t.ahead)
	return text{append(t.ahead, t.behind[:n]...), t.behind[n:]}
}
