package tree

import (
	"iter"
	"sort"

	"puncheon/api"
	"puncheon/path"
)

// root is what stands at /, though it is not among the items.
var root = api.Item{Path: "/", Kind: api.KDir}

// level is a directory that is gone through, and the last path of its own so far: at first that of the directory, as all its own stand behind it.
type level struct {
	dir, last string
}

// valid tells whether l are the items of a tree that may be.
//
// Items rise, and each stands in a directory, if they come as one goes through directories: into each as soon as it comes, and through its own by rising names. Paths in one directory rise by names if they rise byte by byte.
func valid(l []api.Item) bool {
	if len(l) > api.MaxItems {
		return false
	}
	open := []level{{root.Path, root.Path}}
	for _, item := range l {
		open = leave(open, path.Up(item.Path))
		top := len(open) - 1
		if top < 0 || item.Path <= open[top].last || !validData(item) {
			return false
		}
		open[top].last = item.Path
		if item.Kind == api.KDir {
			open = append(open, level{item.Path, item.Path})
		}
	}
	return true
}

// leave answers the levels down to that of dir; none, if dir is not among them.
func leave(open []level, dir string) []level {
	for len(open) > 0 && open[len(open)-1].dir != dir {
		open = open[:len(open)-1]
	}
	return open
}

// validData tells whether the item is of a kind that there is, and its Data such as that kind may have.
func validData(item api.Item) bool {
	many := len(item.Data)
	switch item.Kind {
	case api.KDir:
		return many == 0
	case api.KFile:
		return many <= api.MaxFile
	case api.KLink:
		return 1 <= many && many <= api.MaxLong
	}
	return false
}

// find answers at which place of l, items in order, p stands, or would stand, and whether it does.
func find(l []api.Item, p string) (int, bool) {
	at := sort.Search(len(l), func(n int) bool { return path.Compare(l[n].Path, p) >= 0 })
	return at, at < len(l) && l[at].Path == p
}

// get is Get of items that are known to be a tree's.
func get(l []api.Item, p string) (api.Item, bool) {
	if p == root.Path {
		return root, true
	}
	at, is := find(l, p)
	if !is {
		return api.Item{}, false
	}
	return l[at], true
}

// beneath tells the items of l, a tree's, beneath dir, in order: they stand side by side, behind what stands at dir.
func beneath(l []api.Item, dir string) iter.Seq[api.Item] {
	return func(yield func(api.Item) bool) {
		at, is := find(l, dir)
		if is {
			at++
		}
		for at < len(l) && path.Under(l[at].Path, dir) && yield(l[at]) {
			at++
		}
	}
}
