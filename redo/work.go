package redo

import (
	"slices"

	"puncheon/api"
	"puncheon/path"
	"puncheon/tree"
)

// growing is a tree that may be, and goes on redo by redo, and all operations by which it did.
//
// What its methods are handed are redos that may be; they tell whether they are not stuck.
type growing struct {
	now api.Tree
	ops []api.Op
}

// redo does what r, by its Kind, comes to.
func (g *growing) redo(r api.Redo) bool {
	kinds := [...]func(*growing, api.Redo) bool{
		api.RePut:  (*growing).put,
		api.ReDrop: (*growing).drop,
		api.ReMove: (*growing).move,
	}
	return kinds[r.Kind](g, r)
}

// put does not ask for the item's directory: without one nothing is there to be cleared, and what makes the item has an error.
func (g *growing) put(r api.Redo) bool {
	there := standing(g.now, r.Item.Path)
	if len(there) > 0 {
		switch old := there[0]; {
		case old == r.Item:
			return true
		case old.Kind == api.KFile && r.Item.Kind == api.KFile:
			// An OpWrite takes a file's place by itself.
			there = nil
		}
	}
	return g.run(append(clearing(there), making(r.Item))...)
}

func (g *growing) drop(r api.Redo) bool {
	return g.run(clearing(standing(g.now, r.Item.Path))...)
}

func (g *growing) move(r api.Redo) bool {
	if len(standing(g.now, r.Item.Path)) == 0 {
		return true
	}
	ops := clearing(standing(g.now, r.To))
	return g.run(append(ops, api.Op{Kind: api.OpMove, Path: r.Item.Path, To: r.To})...)
}

// run does operations, and tells whether none has an error.
func (g *growing) run(ops ...api.Op) bool {
	now, many, _ := tree.Run(g.now, ops)
	g.now = now
	g.ops = append(g.ops, ops...)
	return many == len(ops)
}

// find answers at which place of t's items p stands, or would stand, and whether it does.
func find(t api.Tree, p string) (int, bool) {
	return slices.BinarySearchFunc(t.Items, p, func(item api.Item, p string) int { return path.Compare(item.Path, p) })
}

// standing answers what stands at p in t, and behind it all that is beneath: a piece of t's items, as these stand side by side.
func standing(t api.Tree, p string) []api.Item {
	from, _ := find(t, p)
	to := from
	for to < len(t.Items) && path.Under(t.Items[to].Path, p) {
		to++
	}
	return t.Items[from:to]
}

// clearing answers the operations by which an item, the first one, and all beneath it are taken away.
func clearing(l []api.Item) []api.Op {
	ops := make([]api.Op, 0, len(l)+1)
	for n := range len(l) {
		item := l[len(l)-1-n]
		op := api.Op{Kind: api.OpUnlink, Path: item.Path}
		if item.Kind == api.KDir {
			op.Kind = api.OpRmdir
		}
		ops = append(ops, op)
	}
	return ops
}

// drops answers the redos by which what can't stay in a is gone: paths at which nothing stands in b, or an item of another Kind.
func drops(a, b api.Tree) []api.Redo {
	var l []api.Redo
	dropped := ""
	for _, item := range a.Items {
		at, is := find(b, item.Path)
		stays := is && b.Items[at].Kind == item.Kind
		if stays || path.Under(item.Path, dropped) {
			continue
		}
		dropped = item.Path
		l = append(l, dropping(dropped))
	}
	return l
}

// puts answers the redos by which the items of b are there that do not stand so in a.
//
// All of b's under a path that is dropped are among them: of two items of different Kinds there one alone is a directory, and has anything beneath.
func puts(a, b api.Tree) []api.Redo {
	var l []api.Redo
	for _, item := range b.Items {
		at, is := find(a, item.Path)
		if !is || a.Items[at] != item {
			l = append(l, putting(item))
		}
	}
	return l
}
