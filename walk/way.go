package walk

import (
	"iter"
	"strings"

	"puncheon/api"
	"puncheon/path"
)

// root is what stands at /, though it is not among the items of a tree.
var root = api.Item{Path: "/", Kind: api.KDir}

// finder tells what stands at a path, and whether something does.
type finder func(p string) (api.Item, bool)

// standing answers what tells where the items of t, a tree that may be, stand.
func standing(t api.Tree) finder {
	items := make(map[string]api.Item, len(t.Items)+1)
	items[root.Path] = root
	for _, item := range t.Items {
		items[item.Path] = item
	}
	return func(p string) (api.Item, bool) {
		item, is := items[p]
		return item, is
	}
}

// way is a way through a tree: what stands where it is, the parts that are still to come, and over how many links it has gone.
//
// It is at a directory as long as there are parts to come.
type way struct {
	find finder
	here api.Item
	rest []string
	hops int
}

// lead answers the way of s from at, at its end.
func lead(find finder, at, s string, last bool) (way, api.Errno) {
	w, e := begin(find, at)
	if e != api.OK {
		return way{}, e
	}
	w.ahead(s)
	if e = w.follow(last); e != api.OK {
		return way{}, e
	}
	return w, api.OK
}

// begin answers a way at the directory at, without parts.
func begin(find finder, at string) (way, api.Errno) {
	item, is := find(at)
	switch {
	case path.Check(at) != api.OK:
		return way{}, api.ErrPath
	case !is:
		return way{}, api.ErrNone
	case item.Kind != api.KDir:
		return way{}, api.ErrKind
	}
	return way{find: find, here: item}, api.OK
}

// ahead puts the parts of s ahead of those that are still to come, in a row whose memory is its own.
func (w *way) ahead(s string) {
	if strings.HasPrefix(s, "/") {
		w.here = root
	}
	said := strings.Split(s, "/")
	w.rest = append(said[:len(said):len(said)], w.rest...)
}

// parts tells the parts of the way; those that are put ahead meanwhile come first.
func (w *way) parts() iter.Seq[string] {
	return func(yield func(string) bool) {
		for len(w.rest) > 0 {
			part := w.rest[0]
			w.rest = w.rest[1:]
			if !yield(part) {
				return
			}
		}
	}
}

// follow goes the way to its end, or answers why there is none.
func (w *way) follow(last bool) api.Errno {
	e := api.OK
walk:
	for part := range w.parts() {
		switch part {
		case "", ".":
		case "..":
			w.here, _ = w.find(path.Up(w.here.Path))
		default:
			if e = w.step(part, last); e != api.OK {
				break walk
			}
		}
	}
	return e
}

// step takes a part that leads on. One that is no name, or is one too many for a path, leads to nothing, as nothing in a tree has such a path.
func (w *way) step(part string, last bool) api.Errno {
	item, is := w.find(strings.TrimSuffix(w.here.Path, "/") + "/" + part)
	more := len(w.rest) > 0
	switch {
	case !is:
		return api.ErrNone
	case item.Kind == api.KFile && more:
		return api.ErrKind
	case item.Kind == api.KLink && (more || last):
		return w.over(item.Data)
	}
	w.here = item
	return api.OK
}

// over goes over a link that says s, from where that stands.
func (w *way) over(s string) api.Errno {
	if w.hops == api.MaxHops {
		return api.ErrLoop
	}
	w.hops++
	w.ahead(s)
	return api.OK
}
