// Package path is layer 1: where something stands in a tree, as a text of names. See shared/doc/01-path.md.
package path

import (
	"cmp"
	"strings"

	"puncheon/api"
)

// Name tells whether s is a name.
func Name(s string) bool {
	if s == "" || s == "." || s == ".." || len(s) > api.MaxName {
		return false
	}
	for _, r := range s {
		if !letter(r) {
			return false
		}
	}
	return true
}

// Check answers ErrPath, if p is no path.
func Check(p string) api.Errno {
	if !valid(p) {
		return api.ErrPath
	}
	return api.OK
}

// Names answers the names of the path p, in order.
func Names(p string) ([]string, api.Errno) {
	if !valid(p) {
		return nil, api.ErrPath
	}
	return split(p[1:]), api.OK
}

// Of answers the path of these names.
func Of(l ...string) (string, api.Errno) {
	var w way
	for _, name := range l {
		if !w.add(name) {
			return "", api.ErrPath
		}
	}
	return join(w.names...), api.OK
}

// Clean answers the path that s means at the path at.
func Clean(at, s string) (string, api.Errno) {
	names, e := Names(at)
	if e != api.OK {
		return "", e
	}
	if len(s) > api.MaxLong {
		return "", api.ErrLong
	}
	if strings.HasPrefix(s, "/") {
		names = nil
	}
	w := way{names}
	if !follow(s, w.add, w.drop) {
		return "", api.ErrPath
	}
	return join(w.names...), api.OK
}

// Up answers the path p without its last name.
func Up(p string) string {
	dir, _ := cutLast(p)
	return dir
}

// Base answers the last name of the path p.
func Base(p string) string {
	_, name := cutLast(p)
	return name
}

// Under tells whether the path p is under the path dir.
func Under(p, dir string) bool {
	_, is := behind(p, dir)
	return is
}

// Beneath answers the names that the path p has behind those of the path dir.
func Beneath(p, dir string) ([]string, bool) {
	rest, is := behind(p, dir)
	if !is {
		return nil, false
	}
	return split(rest), true
}

// Compare tells which of a and b stands ahead, in the order of paths.
func Compare(a, b string) int {
	switch isA, isB := valid(a), valid(b); {
	case isA && isB:
		return compareNames(a[1:], b[1:])
	case isA:
		return 1
	case isB:
		return -1
	}
	return strings.Compare(a, b)
}

// compareNames goes name by name, since / is not the least of the bytes that may stand in a path.
func compareNames(a, b string) int {
	for a != "" && b != "" {
		nameA, restA, _ := strings.Cut(a, "/")
		nameB, restB, _ := strings.Cut(b, "/")
		if nameA != nameB {
			return strings.Compare(nameA, nameB)
		}
		a, b = restA, restB
	}
	return cmp.Compare(len(a), len(b))
}
