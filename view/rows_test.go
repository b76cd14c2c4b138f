package view_test

import (
	"fmt"
	"slices"
	"strings"

	"puncheon/api"
)

// leaves reads leaves: a path that ends in a slash is a directory's, behind an = stand a file's bytes.
func leaves(said ...string) []api.Leaf {
	var l []api.Leaf
	for _, s := range said {
		p, data, _ := strings.Cut(s, "=")
		leaf := api.Leaf{Path: p, Data: data}
		if len(p) > 1 && strings.HasSuffix(p, "/") {
			leaf.Path, leaf.Dir = strings.TrimSuffix(p, "/"), true
		}
		l = append(l, leaf)
	}
	return l
}

// rows reads rows of leaves, each said in words.
func rows(said ...string) [][]api.Leaf {
	var l [][]api.Leaf
	for _, s := range said {
		l = append(l, leaves(strings.Fields(s)...))
	}
	return l
}

// dir is a directory of these names, as it is seen.
func dir(names ...string) api.Sight {
	return api.Sight{Kind: 2, Names: names}
}

// file is a file of that row, as it is seen.
func file(owner int, data string) api.Sight {
	return api.Sight{Kind: 1, Owner: owner, Data: data}
}

// none is what is seen where nothing is.
var none = api.Sight{}

// long is a text of n bytes.
func long(n int) string {
	return strings.Repeat("x", n)
}

// short is how something looks, as far as a line has room for it.
func short(x any) string {
	s := fmt.Sprintf("%q", fmt.Sprint(x))
	return s[:min(len(s), 300)]
}

// numbered are so many texts of n bytes that rise.
func numbered(many, n int) []string {
	var l []string
	for k := range many {
		l = append(l, fmt.Sprintf("%0*d", n, k))
	}
	return l
}

// rooted are files of these names in the root.
func rooted(names []string) []api.Leaf {
	var l []api.Leaf
	for _, name := range names {
		l = append(l, leaves("/"+name)...)
	}
	return l
}

// deepest is a row of directories, each in the one ahead, and a file as deep as one may stand, whose path is as long as it may be.
func deepest() []api.Leaf {
	var l []api.Leaf
	for n := range api.MaxLeaves - 1 {
		l = append(l, leaves(strings.Repeat("/a", n+1)+"/")...)
	}
	return append(l, leaves(strings.Repeat("/a", api.MaxLeaves-1)+"/"+long(api.MaxPath-2*(api.MaxLeaves-1)-1))...)
}

// most are as many rows as there may be, of as many leaves as there may be: no two have a path in common.
func most() [][]api.Leaf {
	var l [][]api.Leaf
	for owner, name := range numbered(api.MaxOwners, 2) {
		l = append(l, nil)
		for n, second := range numbered(api.MaxLeaves, 2) {
			l[owner] = append(l[owner], api.Leaf{Path: "/" + second + name, Data: fmt.Sprint(owner, n)})
		}
	}
	return l
}

// goodLeaves may be a pack's.
func goodLeaves() [][]api.Leaf {
	name := long(29)
	return [][]api.Leaf{
		nil, {}, leaves("/a"), leaves("/a=\x00"), leaves("/a/"), leaves("/a/", "/b/"), leaves("/a/", "/a/b"), leaves("/a/", "/a/b/", "/a/b/c/", "/a/b/c/d=1"), leaves("/a", "/b/", "/b/c", "/d"),
		leaves("/a/", "/a/b", "/a-b", "/a.b"), leaves("/a/", "/a/z", "/a+"), leaves("/a-b", "/ab"), leaves("/a", "/a-/", "/a-/a", "/a0"),
		leaves("/"+name+"/", "/"+name+"/"+name), leaves("/"+name+"/", "/"+name+"/"+name+"="+long(200)), deepest(),
		leaves("/a="+long(199), "/b="+long(200)), rooted(numbered(15, 2)), rooted(numbered(16, 2)), rooted(numbered(16, 32)), append(leaves("/-/"), rooted(numbered(15, 2))...),
		leaves("/...", "/a/", "/a/.b"), leaves("/a=/=:;\n"), leaves("/a=\xff\xfe"),
	}
}

// badNames are none.
func badNames() []string {
	return []string{"", ".", "..", "A", "aB", "a b", " ", "a/", "a//b", "/", "a:", "é", "\x00", "a\n", "\xff", long(33), long(1000)}
}

// badPaths are none.
func badPaths() []string {
	l := []string{"", "x", "x/f", ".", "..", "//", "//x", "/x/", "/x//f", "/./x", "/x/.", "/x/..", "/x/../x", "/X", "/x/f\x00", " /x", "/x ", "/x\n", "\x00", "\xff", "/\xff", strings.Repeat("/x", 41), "/" + long(33), "/x/" + long(33)}
	for _, name := range badNames() {
		l = append(l, "/"+name+"/x", "/x/"+name+"/f")
	}
	return slices.DeleteFunc(l, isPath)
}

// badLeaves may be no pack's, each in just one way.
func badLeaves() [][]api.Leaf {
	name := long(29)
	l := [][]api.Leaf{
		{{}}, {{Dir: true}}, {{Path: "/"}}, {{Path: "/", Dir: true}}, {{Path: "/", Dir: true}, {Path: "/a"}}, leaves("a"), leaves("a/"), leaves("/a/", "b"),
		{{Path: "/a", Dir: true, Data: "1"}}, {{Path: "/a", Dir: true}, {Path: "/b", Dir: true, Data: "\x00"}},
		leaves("/a=" + long(201)), leaves("/a", "/b="+long(201)), leaves("/a="+long(201), "/b"),
		leaves("/a", "/a"), leaves("/a/", "/a/"), leaves("/a", "/a/"), leaves("/a/", "/a"), leaves("/a/", "/a/b", "/a/b"),
		leaves("/b", "/a"), leaves("/a/", "/a-b", "/a/b"), leaves("/a/", "/a/c", "/a/b"), leaves("/a/b", "/a/"), leaves("/ab", "/a-b"), leaves("/a", "/c", "/b"),
		leaves("/a/b"), leaves("/a/b/"), leaves("/x/f"), leaves("/a/", "/a/b/c"), leaves("/ab/", "/a/b"), leaves("/a/", "/a/b/", "/b/c"),
		leaves("/a", "/a/b"), leaves("/a/", "/a/b", "/a/b/c"),
		leaves("/"+name+"/", "/"+name+"/"+name+"x"), leaves("/"+name+"/", "/"+name+"/"+name+"x/"), append(deepest()[:15], leaves(strings.Repeat("/a", 15)+"/"+long(30))...),
		rooted(numbered(17, 2)), rooted(numbered(1000, 4)), make([]api.Leaf, 16), append(deepest(), leaves("/z")...),
	}
	for _, name := range badNames() {
		l = append(l, []api.Leaf{{Path: "/" + name}}, []api.Leaf{{Path: "/" + name, Dir: true}}, []api.Leaf{{Path: "/a", Dir: true}, {Path: "/a/" + name}})
	}
	return l
}

// clashing are rows that don't go together, each in just one way.
func clashing() [][][]api.Leaf {
	return [][][]api.Leaf{
		rows("/a", "/a"), rows("/a=1", "/a=1"), rows("/a=1", "/a=2"), rows("/a", "/a/"), rows("/a/", "/a"), rows("/a/", "/a/ /a/b", "/a"), rows("/a", "/a/ /a/b", "/a/"), rows("/a/", "/a", "/a/ /a/b"),
		rows("/x/ /x/f", "/x/ /x/f"), rows("/x/ /x/f", "/x"), rows("/x/ /x/d/ /x/d/f", "/x/ /x/d"), rows("/x/ /x/d/ /x/d/f", "/x/ /x/d/ /x/d/f/"), rows("/a", "", "/b", "/a"), rows("", "/a /b /c", "/d /e", "/c /f"),
		{deepest(), deepest()}, append(most()[:15], leaves("/1514")), slices.Repeat(rows("/a/ /b"), api.MaxOwners),
	}
}

// wrong are rows of which nothing is seen, and why.
type wrong struct {
	rows [][]api.Leaf
	e    api.Errno
}

// allWrong are all that is wrong, in more than one way, too: the first one counts.
func allWrong() []wrong {
	var l []wrong
	for _, few := range clashing() {
		l = append(l, wrong{few, api.ErrClash})
	}
	for n, row := range badLeaves() {
		l = append(l, wrong{[][]api.Leaf{row}, api.ErrPack}, wrong{[][]api.Leaf{row, row}, api.ErrPack})
		few := clashing()[n%len(clashing())]
		if len(few) < api.MaxOwners {
			l = append(l, wrong{slices.Insert(slices.Clone(few), n%(len(few)+1), row), api.ErrPack})
		}
		many := make([][]api.Leaf, api.MaxOwners+1+n%3)
		many[n%len(many)] = row
		l = append(l, wrong{many, api.ErrLong})
	}
	return append(l, wrong{make([][]api.Leaf, 17), api.ErrLong}, wrong{make([][]api.Leaf, 1000), api.ErrLong}, wrong{append(most(), nil), api.ErrLong},
		wrong{slices.Repeat(rows("/a"), 17), api.ErrLong}, wrong{slices.Repeat(rows("/a/"), 17), api.ErrLong}, wrong{slices.Repeat([][]api.Leaf{{{}}}, 17), api.ErrLong})
}

// numbers answers a function that tells numbers below its argument, each time the same ones.
func numbers() func(below int) int {
	x := uint64(1)
	return func(below int) int {
		x = x*6364136223846793005 + 1442695040888963407
		return int((x >> 33) % uint64(below))
	}
}

// lists are all lists of at most n of these.
func lists[T any](n int, of ...T) [][]T {
	all := [][]T{nil}
	from := 0
	for range n {
		to := len(all)
		for _, l := range all[from:to] {
			for _, one := range of {
				all = append(all, append(slices.Clone(l), one))
			}
		}
		from = to
	}
	return all
}

// ahead tells in which order two paths stand: nothing that a name has is less than what stands here in the place of /.
func ahead(p, q string) int {
	return strings.Compare(strings.ReplaceAll(p, "/", "\x00"), strings.ReplaceAll(q, "/", "\x00"))
}

// grown are all rows of leaves at these paths, in order, each a directory, a file, or not there: those in which each stands in a directory.
func grown(paths ...string) [][]api.Leaf {
	paths = slices.SortedFunc(slices.Values(paths), ahead)
	all := [][]api.Leaf{nil}
	for _, p := range paths {
		up := p[:strings.LastIndex(p, "/")]
		for _, l := range slices.Clone(all) {
			if up == "" || slices.Contains(l, api.Leaf{Path: up, Dir: true}) {
				all = append(all, append(slices.Clone(l), api.Leaf{Path: p, Data: p}), append(slices.Clone(l), api.Leaf{Path: p, Dir: true}))
			}
		}
	}
	return all
}

// someLeaves are leaves that may be a pack's, at most so many: directories have names that come often, files, for the most, one that ends as no other row's do.
func someLeaves(next func(below int) int, many int, end string) []api.Leaf {
	names := []string{"a", "b", "a-b", "a.b", "aa", "0"}
	dirs := []string{""}
	var l []api.Leaf
	for range many {
		leaf := api.Leaf{Path: dirs[next(len(dirs))] + "/" + names[next(len(names))], Dir: next(2) == 0}
		if !leaf.Dir && next(80) > 0 {
			leaf.Path += end
		}
		if len(leaf.Path) > api.MaxPath || slices.ContainsFunc(l, func(other api.Leaf) bool { return other.Path == leaf.Path }) {
			continue
		}
		if leaf.Dir {
			dirs = append(dirs, leaf.Path)
		} else if next(3) > 0 {
			leaf.Data = names[next(len(names))]
		}
		l = append(l, leaf)
	}
	slices.SortFunc(l, func(a, b api.Leaf) int { return ahead(a.Path, b.Path) })
	return l
}

// someRows are rows of all sorts, many times: of few leaves and of many, few rows and many, some of which may be no pack's, or clash.
func someRows(many int) [][][]api.Leaf {
	next := numbers()
	var all [][][]api.Leaf
	for range many {
		var l [][]api.Leaf
		for _, end := range numbered(next(api.MaxOwners+1), 2) {
			l = append(l, someLeaves(next, next(api.MaxLeaves+1), "_"+end))
		}
		switch next(16) {
		case 0:
			l = append(l, make([][]api.Leaf, next(20))...)
		case 1:
			l = slices.Insert(l, next(len(l)+1), badLeaves()[next(len(badLeaves()))])
		case 2:
			l = append(l, clashing()[next(len(clashing()))]...)
		}
		all = append(all, l)
	}
	return all
}
