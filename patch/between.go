package patch

import (
	"slices"

	"stemma/api"
	"stemma/view"
)

// keyPatches tells the patches from keys as they were to keys as they are, whose changes held tells.
func keyPatches(was, is []api.Entry, held []view.Held) []api.Patch {
	before, after, by := byName(was, keyOf), byName(is, keyOf), byName(held, heldOf)
	var patches []api.Patch
	for _, name := range names(before, after) {
		values := after[name].Values
		if slices.Equal(before[name].Values, values) {
			continue
		}
		patches = append(patches, api.Patch{Kind: api.PatchKey, Name: name, Values: values, Gone: len(values) == 0, From: by[name].By})
	}
	return patches
}

// countPatches tells the patches from counts as they were to counts as they are.
func countPatches(was, is []api.Count) []api.Patch {
	before, after := byName(was, countOf), byName(is, countOf)
	var patches []api.Patch
	for _, name := range names(before, after) {
		c, there := after[name]
		if c == before[name] { // one that is not there has no name, so it is unlike all that are
			continue
		}
		patches = append(patches, api.Patch{Kind: api.PatchCount, Name: name, By: c.N, Gone: !there})
	}
	return patches
}

// textPatches tells the patches of a text, one for each stretch.
func textPatches(r view.Row) []api.Patch {
	var patches []api.Patch
	at := 0
	for left := seen(r.Chars); len(left) > 0; {
		n := alone(left)
		if n == 0 {
			at++
			left = left[1:]
			continue
		}
		p := stretch(r.Name, at, left[:n])
		patches = append(patches, p)
		at += len(p.Put)
		left = left[n:]
	}
	return patches
}

// seen tells the characters that are seen in one of both sets. The others part no stretch.
func seen(chars []view.Char) []view.Char {
	var l []view.Char
	for _, c := range chars {
		if c.A || c.B {
			l = append(l, c)
		}
	}
	return l
}

// alone tells how many of the first characters are seen in one set alone.
func alone(chars []view.Char) int {
	for i, c := range chars {
		if c.A && c.B {
			return i
		}
	}
	return len(chars)
}

// stretch tells the patch of a stretch, whose characters are each seen in one set alone.
func stretch(name string, at int, chars []view.Char) api.Patch {
	p := api.Patch{Kind: api.PatchText, Name: name, At: at}
	var put []byte
	for _, c := range chars {
		if c.A {
			p.Cut++
			continue
		}
		put = append(put, c.Char)
		p.From = append(p.From, c.By)
	}
	p.Put = string(put)
	return p
}
