package keg

import (
	"iter"
	"slices"
	"strings"

	"puncheon/api"
	"puncheon/pack"
	"puncheon/path"
	"puncheon/tree"
	"puncheon/version"
)

// staging is where a keg stands till it is moved to its root.
const staging = api.StagePath + "/keg"

// packOf answers what k is without its digest; it shares the lists of k.
func packOf(k api.Keg) api.Pack {
	return api.Pack{Ref: k.Ref, Needs: k.Needs, Leaves: k.Leaves}
}

// copied answers a need in memory of its own, down to the bounds of its span.
func copied(n api.Need) api.Need {
	n.Span.Rows = each(slices.Values(n.Span.Rows), slices.Clone[[]api.Bound])
	return n
}

// each answers what each of l becomes.
func each[A, B any](l iter.Seq[A], become func(A) B) []B {
	var all []B
	for one := range l {
		all = append(all, become(one))
	}
	return all
}

// within answers the path of these names in dir, each in the one ahead.
func within(dir string, names ...string) string {
	for _, name := range names {
		dir += "/" + name
	}
	return dir
}

// rootOf answers where the keg of r stands, which may be: no version's text is too long for a name.
func rootOf(r api.Ref) string {
	text, _ := version.Text(r.Version)
	return within(api.CellarPath, r.Name, text)
}

// itemsAt answers a directory at the path, and the items of leaves behind it: however deep these are, there are names enough left for it.
func itemsAt(at string, l []api.Leaf) []api.Item {
	top := []api.Item{{Path: at, Kind: api.KDir}}
	return append(top, each(slices.Values(l), func(leaf api.Leaf) api.Item {
		item := api.Item{Path: at + leaf.Path, Kind: api.KFile, Data: leaf.Data}
		if leaf.Dir {
			item.Kind = api.KDir
		}
		return item
	})...)
}

// staged answers the steps by which leaves are staged.
func staged(l []api.Leaf) []api.Step {
	top := []api.Item{{Path: api.StagePath, Kind: api.KDir}}
	steps := each(slices.Values(append(top, itemsAt(staging, l)...)), making)
	return append(steps, api.Step{Sync: true})
}

// making answers the step by which the directory, or file, is made.
func making(item api.Item) api.Step {
	op := api.Op{Kind: api.OpWrite, Path: item.Path, Data: item.Data}
	if item.Kind == api.KDir {
		op.Kind = api.OpMkdir
	}
	return api.Step{Op: op}
}

// beneath tells what stands beneath the root in t, in order, each by its path behind the root.
func beneath(t api.Tree, root string) iter.Seq[api.Item] {
	return func(yield func(api.Item) bool) {
		for _, item := range tree.Below(t, root) {
			item.Path = strings.TrimPrefix(item.Path, root)
			if !yield(item) {
				return
			}
		}
	}
}

// noLeaves is what a panic says of items that are no keg's.
type noLeaves struct{}

// leavesOf answers the leaves that items beneath a root are.
func leavesOf(items iter.Seq[api.Item]) (l []api.Leaf, e api.Errno) {
	defer func() {
		if recover() != nil {
			l, e = nil, api.ErrKeg
		}
	}()
	l = each(items, leafOf)
	if pack.CheckLeaves(l) != api.OK {
		panic(noLeaves{})
	}
	return l, api.OK
}

// leafOf answers the leaf that an item is; it panics at a link, which is none.
func leafOf(item api.Item) api.Leaf {
	if item.Kind == api.KLink {
		panic(noLeaves{})
	}
	return api.Leaf{Path: item.Path, Dir: item.Kind == api.KDir, Data: item.Data}
}

// refsOf answers the refs, as keys, of the directories beneath /cellar whose paths are a name and a version's text.
func refsOf(items iter.Seq[api.Item]) map[api.Ref]struct{} {
	refs := map[api.Ref]struct{}{}
	for item := range items {
		names, _ := path.Names(item.Path)
		if len(names) != 2 || item.Kind != api.KDir {
			continue
		}
		if v, e := version.Read(names[1]); e == api.OK {
			refs[api.Ref{Name: names[0], Version: v}] = struct{}{}
		}
	}
	return refs
}
