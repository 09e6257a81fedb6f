package patch

import (
	"slices"

	"stemma/api"
	"stemma/hashes"
	"stemma/view"
)

// keyOf, heldOf, countOf and textOf tell the names of what a document has.
func keyOf(k api.Entry) string { return k.Key }

func heldOf(k view.Held) string { return k.Key }

func countOf(c api.Count) string { return c.Key }

func textOf(t api.Text) string { return t.Name }

// rising tells whether things have names, rising and each once.
func rising[T any](l []T, nameOf func(T) string) bool {
	last := "" // no name, and less than any
	for _, x := range l {
		name := nameOf(x)
		if !hashes.Name(name) || name <= last {
			return false
		}
		last = name
	}
	return true
}

// byName tells things by their names.
func byName[T any](l []T, nameOf func(T) string) map[string]T {
	m := map[string]T{}
	for _, x := range l {
		m[nameOf(x)] = x
	}
	return m
}

// names tells the names of all maps, each once, rising, as a map has no order.
func names[T any](all ...map[string]T) []string {
	var l []string
	for _, m := range all {
		for name := range m {
			l = append(l, name)
		}
	}
	slices.Sort(l)
	return slices.Compact(l)
}
