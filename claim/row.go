package claim

import (
	"iter"
	"maps"
	"slices"

	"puncheon/api"
	"puncheon/pack"
	"puncheon/path"
)

// check answers by which error rows may not be.
func check(l [][]api.Leaf) api.Errno {
	if len(l) > api.MaxOwners {
		return api.ErrLong
	}
	for _, row := range l {
		if e := pack.CheckLeaves(row); e != api.OK {
			return e
		}
	}
	return api.OK
}

// claims tells the claims of rows that may be, path by path, in order.
func claims(l [][]api.Leaf) iter.Seq[api.Claim] {
	return func(yield func(api.Claim) bool) {
		by := owned(l)
		for _, p := range slices.SortedFunc(maps.Keys(by), path.Compare) {
			if !yield(by[p]) {
				return
			}
		}
	}
}

// owned answers the claims of rows by their paths.
func owned(l [][]api.Leaf) map[string]api.Claim {
	by := map[string]api.Claim{}
	for place, row := range l {
		for _, leaf := range row {
			c, is := by[leaf.Path]
			by[leaf.Path] = api.Claim{
				Path:   leaf.Path,
				Dir:    leaf.Dir && (c.Dir || !is),
				Owners: append(c.Owners, place),
			}
		}
	}
	return by
}
