package note

import (
	"slices"

	"puncheon/api"
	"puncheon/pack"
	"puncheon/path"
	"puncheon/sha"
)

// valid tells whether r may be.
func valid(r api.Receipt) bool {
	if slices.ContainsFunc(r.Marks, summedDir) {
		return false
	}
	p := bare(r)
	p.Leaves = leavesOf(r.Marks)
	return pack.Check(p) == api.OK
}

// summedDir tells whether m is a directory that has a sum.
func summedDir(m api.Mark) bool {
	return m.Dir && m.Sum != api.Digest{}
}

// bare answers what r says of a pack, without leaves.
func bare(r api.Receipt) api.Pack {
	return api.Pack{Ref: r.Ref, Needs: r.Needs}
}

// leavesOf answers leaves, without Data, where the marks are.
func leavesOf(l []api.Mark) []api.Leaf {
	leaves := make([]api.Leaf, 0, len(l))
	for _, m := range l {
		leaves = append(leaves, api.Leaf{Path: m.Path, Dir: m.Dir})
	}
	return leaves
}

// marksOf answers the marks of leaves.
func marksOf(l []api.Leaf) []api.Mark {
	marks := make([]api.Mark, 0, len(l))
	for _, leaf := range l {
		marks = append(marks, markOf(leaf))
	}
	return marks
}

// markOf answers the mark of a leaf; a directory has no sum, not that of no bytes.
func markOf(leaf api.Leaf) api.Mark {
	m := api.Mark{Path: leaf.Path, Dir: leaf.Dir}
	if !leaf.Dir {
		m.Sum = sha.Sum([]byte(leaf.Data))
	}
	return m
}

// apart answers the paths of the marks that are not in both a and b, each once, in order.
func apart(a, b []api.Mark) []string {
	var paths []string
	for _, m := range slices.Concat(a, b) {
		if !slices.Contains(a, m) || !slices.Contains(b, m) {
			paths = append(paths, m.Path)
		}
	}
	slices.SortFunc(paths, path.Compare)
	return slices.Compact(paths)
}

// copied answers needs in memory of their own, down to the bounds of their spans.
func copied(l []api.Need) []api.Need {
	l = slices.Clone(l)
	for n := range l {
		rows := slices.Clone(l[n].Span.Rows)
		for k := range rows {
			rows[k] = slices.Clone(rows[k])
		}
		l[n].Span.Rows = rows
	}
	return l
}
