package path

import (
	"iter"
	"strings"

	"puncheon/api"
)

// way is a path that goes on, name by name.
type way struct {
	names []string
}

// add tells whether the name may stand there.
func (w *way) add(name string) bool {
	if len(w.names) == api.MaxDepth || !Name(name) {
		return false
	}
	w.names = append(w.names, name)
	return true
}

// drop leaves the way as it is if it has no name: nothing is above /.
func (w *way) drop() {
	w.names = w.names[:max(0, len(w.names)-1)]
}

// follow walks the parts of s, and tells whether all of them may stand.
func follow(s string, add func(string) bool, drop func()) bool {
	stands := true
walk:
	for part := range parts(s) {
		switch part {
		case "", ".":
		case "..":
			drop()
		default:
			if stands = add(part); !stands {
				break walk
			}
		}
	}
	return stands
}

// parts tells what stands in s between its slashes; of an empty text that is one empty part.
func parts(s string) iter.Seq[string] {
	return func(yield func(string) bool) {
		part, rest, more := strings.Cut(s, "/")
		for yield(part) && more {
			part, rest, more = strings.Cut(rest, "/")
		}
	}
}

// split answers the names that stand in s with slashes between them; an empty text has none.
func split(s string) []string {
	if s == "" {
		return nil
	}
	names := make([]string, 0, strings.Count(s, "/")+1)
	for name := range parts(s) {
		names = append(names, name)
	}
	return names
}

// join answers the path of names that are known to be some.
func join(names ...string) string {
	return "/" + strings.Join(names, "/")
}

func letter(r rune) bool {
	switch {
	case 'a' <= r && r <= 'z', '0' <= r && r <= '9':
		return true
	case r == '.', r == '_', r == '+', r == '-':
		return true
	}
	return false
}

// valid tells whether p is a path; it stops at the first name that may not stand, however long p is.
func valid(p string) bool {
	rest, rooted := strings.CutPrefix(p, "/")
	if !rooted {
		return false
	}
	if rest == "" {
		return true
	}
	depth := 0
	for part := range parts(rest) {
		depth++
		if depth > api.MaxDepth || !Name(part) {
			return false
		}
	}
	return true
}

// cutLast answers the path p without its last name, and that name; of what is no path both are empty.
func cutLast(p string) (dir, name string) {
	if !valid(p) {
		return "", ""
	}
	last := strings.LastIndexByte(p, '/')
	return p[:max(1, last)], p[last+1:]
}

// behind answers what stands in the path p behind the path dir, without the slash between them.
func behind(p, dir string) (string, bool) {
	if !valid(p) || !valid(dir) {
		return "", false
	}
	if dir == "/" {
		return p[1:], true
	}
	rest, is := strings.CutPrefix(p, dir)
	if !is || rest != "" && rest[0] != '/' {
		return "", false
	}
	return strings.TrimPrefix(rest, "/"), true
}
