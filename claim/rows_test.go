package claim_test

import (
	"fmt"
	"slices"
	"strconv"
	"strings"

	"puncheon/api"
)

// leaves reads leaves: a path that ends in a slash is a directory's, behind an = stand a file's bytes.
func leaves(said ...string) []api.Leaf {
	var l []api.Leaf
	for _, s := range said {
		p, data, _ := strings.Cut(s, "=")
		leaf := api.Leaf{Path: p, Data: data}
		if len(p) > 1 && strings.HasSuffix(p, "/") {
			leaf.Path, leaf.Dir = strings.TrimSuffix(p, "/"), true
		}
		l = append(l, leaf)
	}
	return l
}

// rows reads rows of leaves, each said in words.
func rows(said ...string) [][]api.Leaf {
	var l [][]api.Leaf
	for _, s := range said {
		l = append(l, leaves(strings.Fields(s)...))
	}
	return l
}

// claims reads claims, each said as a path, with a slash behind it if it is a directory's, and the owners.
func claims(said ...string) []api.Claim {
	var l []api.Claim
	for _, s := range said {
		words := strings.Fields(s)
		leaf := leaves(words[0])[0]
		c := api.Claim{Path: leaf.Path, Dir: leaf.Dir}
		for _, word := range words[1:] {
			owner, e := strconv.Atoi(word)
			if e != nil {
				panic(s)
			}
			c.Owners = append(c.Owners, owner)
		}
		l = append(l, c)
	}
	return l
}

// long is a text of n bytes.
func long(n int) string {
	return strings.Repeat("x", n)
}

// short is how something looks, as far as a line has room for it.
func short(x any) string {
	s := fmt.Sprintf("%q", fmt.Sprint(x))
	return s[:min(len(s), 300)]
}

// numbered are so many texts of n bytes that rise.
func numbered(many, n int) []string {
	var l []string
	for k := range many {
		l = append(l, fmt.Sprintf("%0*d", n, k))
	}
	return l
}

// rooted are files of these names in the root.
func rooted(names []string) []api.Leaf {
	var l []api.Leaf
	for _, name := range names {
		l = append(l, leaves("/"+name)...)
	}
	return l
}

// deepest is a row of directories, each in the one ahead, and a file as deep as one may stand, whose path is as long as it may be.
func deepest() []api.Leaf {
	var l []api.Leaf
	for n := range api.MaxLeaves - 1 {
		l = append(l, leaves(strings.Repeat("/a", n+1)+"/")...)
	}
	return append(l, leaves(strings.Repeat("/a", api.MaxLeaves-1)+"/"+long(api.MaxPath-2*(api.MaxLeaves-1)-1))...)
}

// goodLeaves may be a pack's.
func goodLeaves() [][]api.Leaf {
	name := long(29)
	return [][]api.Leaf{
		nil, {}, leaves("/a"), leaves("/a=\x00"), leaves("/a/"), leaves("/a/", "/b/"), leaves("/a/", "/a/b"), leaves("/a/", "/a/b/", "/a/b/c/", "/a/b/c/d=1"), leaves("/a", "/b/", "/b/c", "/d"),
		leaves("/a/", "/a/b", "/a-b", "/a.b"), leaves("/a/", "/a/z", "/a+"), leaves("/a-b", "/ab"), leaves("/a", "/a-/", "/a-/a", "/a0"),
		leaves("/"+name+"/", "/"+name+"/"+name), leaves("/"+name+"/", "/"+name+"/"+name+"="+long(200)), deepest(),
		leaves("/a="+long(199), "/b="+long(200)), rooted(numbered(15, 2)), rooted(numbered(16, 2)), rooted(numbered(16, 32)), append(leaves("/-/"), rooted(numbered(15, 2))...),
		leaves("/...", "/a/", "/a/.b"), leaves("/a=/=:;\n"), leaves("/a=\xff\xfe"),
	}
}

// badNames are none.
func badNames() []string {
	return []string{"", ".", "..", "A", "aB", "a b", " ", "a/", "a//b", "/", "a:", "é", "\x00", "a\n", "\xff", long(33), long(1000)}
}

// badLeaves may be no pack's, each in just one way.
func badLeaves() [][]api.Leaf {
	name := long(29)
	l := [][]api.Leaf{
		{{}}, {{Dir: true}}, {{Path: "/"}}, {{Path: "/", Dir: true}}, {{Path: "/", Dir: true}, {Path: "/a"}}, leaves("a"), leaves("a/"), leaves("/a/", "b"),
		{{Path: "/a", Dir: true, Data: "1"}}, {{Path: "/a", Dir: true}, {Path: "/b", Dir: true, Data: "\x00"}},
		leaves("/a=" + long(201)), leaves("/a", "/b="+long(201)), leaves("/a="+long(201), "/b"),
		leaves("/a", "/a"), leaves("/a/", "/a/"), leaves("/a", "/a/"), leaves("/a/", "/a"), leaves("/a/", "/a/b", "/a/b"),
		leaves("/b", "/a"), leaves("/a/", "/a-b", "/a/b"), leaves("/a/", "/a/c", "/a/b"), leaves("/a/b", "/a/"), leaves("/ab", "/a-b"), leaves("/a", "/c", "/b"),
		leaves("/a/b"), leaves("/a/b/"), leaves("/x/f"), leaves("/a/", "/a/b/c"), leaves("/ab/", "/a/b"), leaves("/a/", "/a/b/", "/b/c"),
		leaves("/a", "/a/b"), leaves("/a/", "/a/b", "/a/b/c"),
		leaves("/"+name+"/", "/"+name+"/"+name+"x"), leaves("/"+name+"/", "/"+name+"/"+name+"x/"), append(deepest()[:15], leaves(strings.Repeat("/a", 15)+"/"+long(30))...),
		rooted(numbered(17, 2)), rooted(numbered(1000, 4)), make([]api.Leaf, 16), append(deepest(), leaves("/z")...),
	}
	for _, name := range badNames() {
		l = append(l, []api.Leaf{{Path: "/" + name}}, []api.Leaf{{Path: "/" + name, Dir: true}}, []api.Leaf{{Path: "/a", Dir: true}, {Path: "/a/" + name}})
	}
	return l
}

// numbers answers a function that tells numbers below its argument, each time the same ones.
func numbers() func(below int) int {
	x := uint64(1)
	return func(below int) int {
		x = x*6364136223846793005 + 1442695040888963407
		return int((x >> 33) % uint64(below))
	}
}

// lists are all lists of at most n of these.
func lists[T any](n int, of ...T) [][]T {
	all := [][]T{nil}
	from := 0
	for range n {
		to := len(all)
		for _, l := range all[from:to] {
			for _, one := range of {
				all = append(all, append(slices.Clone(l), one))
			}
		}
		from = to
	}
	return all
}

// ahead tells in which order two paths stand: nothing that a name has is less than what stands here in the place of /.
func ahead(p, q string) int {
	return strings.Compare(strings.ReplaceAll(p, "/", "\x00"), strings.ReplaceAll(q, "/", "\x00"))
}

// grown are all rows of leaves at these paths, in order, each a directory, a file, or not there: those in which each stands in a directory.
func grown(paths ...string) [][]api.Leaf {
	paths = slices.SortedFunc(slices.Values(paths), ahead)
	all := [][]api.Leaf{nil}
	for _, p := range paths {
		up := p[:strings.LastIndex(p, "/")]
		for _, l := range slices.Clone(all) {
			if up == "" || slices.Contains(l, api.Leaf{Path: up, Dir: true}) {
				all = append(all, append(slices.Clone(l), api.Leaf{Path: p}), append(slices.Clone(l), api.Leaf{Path: p, Dir: true}))
			}
		}
	}
	return all
}

// someLeaves are leaves that may be a pack's, at most so many, of names that come often: what is a directory is one in most rows.
func someLeaves(next func(below int) int, many int) []api.Leaf {
	names := []string{"a", "b", "a-b", "a.b", "aa", "0"}
	dirs := []string{""}
	var l []api.Leaf
	for range many {
		p := dirs[next(len(dirs))] + "/" + names[next(len(names))]
		if len(p) > api.MaxPath || slices.ContainsFunc(l, func(leaf api.Leaf) bool { return leaf.Path == p }) {
			continue
		}
		leaf := api.Leaf{Path: p, Dir: len(p)%3 != 0}
		if next(20) == 0 {
			leaf.Dir = !leaf.Dir
		}
		if leaf.Dir {
			dirs = append(dirs, p)
		} else if next(2) == 0 {
			leaf.Data = names[next(len(names))]
		}
		l = append(l, leaf)
	}
	slices.SortFunc(l, func(a, b api.Leaf) int { return ahead(a.Path, b.Path) })
	return l
}

// someRows are rows of all sorts, many times: of few leaves and of many, few rows and many, some of which may be no pack's.
func someRows(many int) [][][]api.Leaf {
	next := numbers()
	var all [][][]api.Leaf
	for range many {
		var l [][]api.Leaf
		for range next(api.MaxOwners + 1) {
			l = append(l, someLeaves(next, next(api.MaxLeaves+1)))
		}
		switch next(12) {
		case 0:
			l = append(l, make([][]api.Leaf, next(20))...)
		case 1:
			l = slices.Insert(l, next(len(l)+1), badLeaves()[next(len(badLeaves()))])
		}
		all = append(all, l)
	}
	return all
}
