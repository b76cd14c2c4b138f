package pack

import (
	"slices"
	"strings"

	"puncheon/api"
	"puncheon/path"
	"puncheon/span"
	"puncheon/version"
)

// root is the pack's own, which is always there, and no leaf.
const root = "/"

// valid tells whether p may be.
func valid(p api.Pack) bool {
	isOwn := func(n api.Need) bool { return n.Name == p.Ref.Name }
	return validRef(p.Ref) && validNeeds(p.Needs) && validLeaves(p.Leaves) && !slices.ContainsFunc(p.Needs, isOwn)
}

// validRef tells whether r may be.
func validRef(r api.Ref) bool {
	return path.Name(r.Name) && version.Check(r.Version) == api.OK
}

// validNeeds tells whether l may be somebody's needs.
func validNeeds(l []api.Need) bool {
	if len(l) > api.MaxNeeds {
		return false
	}
	for _, n := range l {
		if !path.Name(n.Name) || span.Check(n.Span) != api.OK {
			return false
		}
	}
	return rise(l, func(a, b api.Need) int { return strings.Compare(a.Name, b.Name) })
}

// validLeaves tells whether l may be a pack's leaves.
func validLeaves(l []api.Leaf) bool {
	if len(l) > api.MaxLeaves {
		return false
	}
	for _, leaf := range l {
		if !validLeaf(leaf) || !inDir(leaf, l) {
			return false
		}
	}
	return rise(l, func(a, b api.Leaf) int { return path.Compare(a.Path, b.Path) })
}

// validLeaf tells whether the leaf may be, whatever stands beside it.
func validLeaf(leaf api.Leaf) bool {
	if leaf.Path == root || len(leaf.Path) > api.MaxPath || path.Check(leaf.Path) != api.OK {
		return false
	}
	if leaf.Dir {
		return leaf.Data == ""
	}
	return len(leaf.Data) <= api.MaxLeaf
}

// inDir tells whether the leaf stands in the root, or in a directory of l.
func inDir(leaf api.Leaf, l []api.Leaf) bool {
	up := path.Up(leaf.Path)
	above, is := Find(l, up)
	return up == root || is && above.Dir
}

// rise tells whether each of l stands behind the one ahead of it, so that no two are one.
func rise[T any](l []T, compare func(a, b T) int) bool {
	for n := 1; n < len(l); n++ {
		if compare(l[n-1], l[n]) >= 0 {
			return false
		}
	}
	return true
}
