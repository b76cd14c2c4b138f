package tree

import (
	"slices"

	"puncheon/api"
	"puncheon/path"
)

// shape is what an operation has beside its Path: whether To, and how many bytes of Data, at least and at most.
type shape struct {
	to          bool
	least, most int
}

// shapes are those of the kinds of operations, each at the place of its number.
var shapes = [...]shape{
	api.OpMkdir:  {},
	api.OpWrite:  {most: api.MaxFile},
	api.OpAppend: {most: api.MaxFile},
	api.OpLink:   {least: 1, most: api.MaxLong},
	api.OpMove:   {to: true},
	api.OpUnlink: {},
	api.OpRmdir:  {},
}

// growing is a tree that may be, and goes on; its list is its own.
//
// What its methods are handed are operations that may be. An operation that has an error changes nothing.
type growing struct {
	items []api.Item
}

// kinds answers what each kind of operation does.
func (g *growing) kinds() map[int]func(api.Op) api.Errno {
	return map[int]func(api.Op) api.Errno{
		api.OpMkdir:  g.mkdir,
		api.OpWrite:  g.write,
		api.OpAppend: g.extend,
		api.OpLink:   g.link,
		api.OpMove:   g.move,
		api.OpUnlink: g.unlink,
		api.OpRmdir:  g.rmdir,
	}
}

func (g *growing) mkdir(op api.Op) api.Errno {
	return g.add(api.Item{Path: op.Path, Kind: api.KDir})
}

func (g *growing) link(op api.Op) api.Errno {
	return g.add(api.Item{Path: op.Path, Kind: api.KLink, Data: op.Data})
}

func (g *growing) write(op api.Op) api.Errno {
	if e := g.open(op.Path); e != api.OK {
		return e
	}
	item, is := get(g.items, op.Path)
	switch {
	case is && item.Kind != api.KFile:
		return api.ErrKind
	case !is && g.full():
		return api.ErrFull
	}
	g.put(api.Item{Path: op.Path, Kind: api.KFile, Data: op.Data})
	return api.OK
}

func (g *growing) extend(op api.Op) api.Errno {
	item, is := get(g.items, op.Path)
	switch {
	case !is:
		return api.ErrNone
	case item.Kind != api.KFile:
		return api.ErrKind
	case len(item.Data)+len(op.Data) > api.MaxFile:
		return api.ErrLong
	}
	item.Data += op.Data
	g.put(item)
	return api.OK
}

func (g *growing) move(op api.Op) api.Errno {
	if _, is := get(g.items, op.Path); !is {
		return api.ErrNone
	}
	// Of / each To is under it.
	if path.Under(op.To, op.Path) {
		return api.ErrArg
	}
	if e := g.open(op.To); e != api.OK {
		return e
	}
	if _, is := get(g.items, op.To); is {
		return api.ErrThere
	}
	moved, e := g.moved(op.Path, op.To)
	if e != api.OK {
		return e
	}
	g.take(op.Path, len(moved))
	g.put(moved...)
	return api.OK
}

func (g *growing) unlink(op api.Op) api.Errno {
	item, is := get(g.items, op.Path)
	switch {
	case !is:
		return api.ErrNone
	case item.Kind == api.KDir:
		return api.ErrKind
	}
	g.take(op.Path, 1)
	return api.OK
}

func (g *growing) rmdir(op api.Op) api.Errno {
	item, is := get(g.items, op.Path)
	switch {
	case !is:
		return api.ErrNone
	case item.Kind != api.KDir:
		return api.ErrKind
	case item == root, g.busy(op.Path):
		return api.ErrBusy
	}
	g.take(op.Path, 1)
	return api.OK
}

// add lays a new item at a path at which nothing may stand yet.
func (g *growing) add(item api.Item) api.Errno {
	if e := g.open(item.Path); e != api.OK {
		return e
	}
	if _, is := get(g.items, item.Path); is {
		return api.ErrThere
	}
	if g.full() {
		return api.ErrFull
	}
	g.put(item)
	return api.OK
}

// open answers why the place of p is not open.
func (g *growing) open(p string) api.Errno {
	dir, is := get(g.items, path.Up(p))
	switch {
	case !is:
		return api.ErrNone
	case dir.Kind != api.KDir:
		return api.ErrKind
	}
	return api.OK
}

// full tells whether there is room for no item more.
func (g *growing) full() bool {
	return len(g.items) == api.MaxItems
}

// busy tells whether something is beneath dir.
func (g *growing) busy(dir string) bool {
	for range beneath(g.items, dir) {
		return true
	}
	return false
}

// moved answers what stands at a path, and beneath, as it stands at another one.
func (g *growing) moved(from, to string) ([]api.Item, api.Errno) {
	item, _ := get(g.items, from)
	item.Path = to
	moved := []api.Item{item}
	names, _ := path.Names(to)
	for item := range beneath(g.items, from) {
		behind, _ := path.Beneath(item.Path, from)
		p, e := path.Of(slices.Concat(names, behind)...)
		if e != api.OK {
			return nil, e
		}
		item.Path = p
		moved = append(moved, item)
	}
	return moved, api.OK
}

// put lays items that stand side by side where they belong, in the place of what stands at the path of the first one.
func (g *growing) put(l ...api.Item) {
	at, is := find(g.items, l[0].Path)
	if is {
		g.take(l[0].Path, 1)
	}
	g.items = slices.Insert(g.items, at, l...)
}

// take takes away what stands at p, and behind it, so many items in all.
func (g *growing) take(p string, many int) {
	at, _ := find(g.items, p)
	g.items = slices.Delete(g.items, at, at+many)
}
