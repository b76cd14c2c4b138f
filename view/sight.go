package view

import (
	"iter"
	"slices"

	"puncheon/api"
	"puncheon/claim"
	"puncheon/pack"
	"puncheon/path"
)

// root is a directory even where no row has anything.
const root = "/"

// together answers the claims of rows that go together, by their paths.
func together(l [][]api.Leaf) (map[string]api.Claim, api.Errno) {
	// Of rows that may not be none are told to clash: Of says why they may not.
	if clashes, _ := claim.Clashes(l); len(clashes) > 0 {
		return nil, api.ErrClash
	}
	all, e := claim.Of(l)
	by := map[string]api.Claim{}
	for _, c := range all {
		by[c.Path] = c
	}
	return by, e
}

// sight answers what is seen at the path p of rows that have these claims.
func sight(l [][]api.Leaf, by map[string]api.Claim, p string) api.Sight {
	c, is := by[p]
	switch {
	case c.Dir || p == root:
		return api.Sight{Kind: api.SeeDir, Names: namesIn(by, p)}
	case is:
		// As the rows go together, nobody else has that file.
		owner := c.Owners[0]
		leaf, _ := pack.Find(l[owner], p)
		return api.Sight{Kind: api.SeeFile, Owner: owner, Data: leaf.Data}
	}
	return api.Sight{}
}

// namesIn answers, in order, the names of what has a claim right in dir.
func namesIn(by map[string]api.Claim, dir string) []string {
	var all []string
	for up, name := range parted(by) {
		if up == dir {
			all = append(all, name)
		}
	}
	return claim.Union(all)
}

// parted tells, in no order, of each path that has a claim what it is without its last name, and that name.
func parted(by map[string]api.Claim) iter.Seq2[string, string] {
	return func(yield func(up, name string) bool) {
		for p := range by {
			if !yield(path.Up(p), path.Base(p)) {
				return
			}
		}
	}
}

// apartFrom answers a function that tells whether a sight is another one than s.
func apartFrom(s api.Sight) func(api.Sight) bool {
	return func(other api.Sight) bool {
		return other.Kind != s.Kind || other.Owner != s.Owner || other.Data != s.Data || !slices.Equal(other.Names, s.Names)
	}
}
