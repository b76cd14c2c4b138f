package view_test

import (
	"fmt"
	"slices"
	"strings"
	"testing"

	"puncheon/api"
	"puncheon/view"
)

// tell is a text that two sights have alike just if they are the same, part by part.
func tell(s api.Sight) string {
	return fmt.Sprintf("%d %d %q %q", s.Kind, s.Owner, s.Data, s.Names)
}

// see asks what is seen of rows at a path, and tells what is otherwise.
func see(t *testing.T, l [][]api.Leaf, p string, want api.Sight) {
	t.Helper()
	got, e := view.At(l, p)
	if tell(got) != tell(want) || e != api.OK {
		t.Errorf("At(%s, %s): %s %d, not %s", short(l), short(p), short(tell(got)), e, short(tell(want)))
	}
	if !view.Same(got, want) || !view.Same(want, got) {
		t.Errorf("Same(%s, %s): false", short(tell(got)), short(tell(want)))
	}
}

// nothing asks that nothing is seen of rows at paths.
func nothing(t *testing.T, l [][]api.Leaf, paths ...string) {
	t.Helper()
	for _, p := range paths {
		see(t, l, p, none)
	}
}

// noSight asks that nothing is answered but this error.
func noSight(t *testing.T, l [][]api.Leaf, p string, want api.Errno) {
	t.Helper()
	if got, e := view.At(l, p); tell(got) != tell(none) || e != want {
		t.Errorf("At(%s, %s): %s %d, not %d", short(l), short(p), tell(got), e, want)
	}
}

// refused asks that rows are refused, by this error, in all calls, whatever is asked of them.
func refused(t *testing.T, l [][]api.Leaf, want api.Errno) {
	t.Helper()
	for _, p := range []string{"/", "/a", "/x/f", "/zz", "", "x", "/x/", "/X"} {
		noSight(t, l, p, want)
		noStack(t, [][][]api.Leaf{l}, p, want)
	}
	if got, e := view.Paths(l); len(got) != 0 || e != want {
		t.Errorf("Paths(%s): %s %d, not %d", short(l), short(got), e, want)
	}
}

// paths asks for the paths of rows, and tells what is otherwise.
func paths(t *testing.T, l [][]api.Leaf, want ...string) {
	t.Helper()
	if got, e := view.Paths(l); !slices.Equal(got, want) || e != api.OK {
		t.Errorf("Paths(%s): %s %d, not %s", short(l), short(got), e, short(want))
	}
}

// P17.1: the root is a directory, of no rows, of rows of no leaves, of one row, and of several.
func TestAtRoot(t *testing.T) {
	see(t, nil, "/", dir())
	see(t, [][]api.Leaf{}, "/", dir())
	see(t, rows(""), "/", dir())
	see(t, make([][]api.Leaf, api.MaxOwners), "/", dir())
	see(t, rows("/a"), "/", dir("a"))
	see(t, rows("/a/"), "/", dir("a"))
	see(t, rows("/a/ /a/b/ /a/b/c"), "/", dir("a"))
	see(t, rows("", "/a /b", ""), "/", dir("a", "b"))
	see(t, rows("/c", "/b", "/a"), "/", dir("a", "b", "c"))
	see(t, rows("/a/ /c", "/a/ /b"), "/", dir("a", "b", "c"))
	see(t, slices.Repeat(rows("/a/ /b/"), api.MaxOwners), "/", dir("a", "b"))
	see(t, [][]api.Leaf{rooted(numbered(16, 32))}, "/", dir(numbered(16, 32)...))
	var names []string
	for _, row := range most() {
		for _, leaf := range row {
			names = append(names, leaf.Path[1:])
		}
	}
	slices.Sort(names)
	see(t, most(), "/", dir(names...))
}

// P17.1: a directory of one row, and of several, with names from each, and from all, each once.
func TestAtDir(t *testing.T) {
	see(t, rows("/a/"), "/a", dir())
	see(t, rows("/a/", "/a/", "/a/"), "/a", dir())
	see(t, rows("/a/ /a/b"), "/a", dir("b"))
	see(t, rows("", "/a/ /a/b", ""), "/a", dir("b"))
	see(t, rows("/a/", "/a/ /a/b"), "/a", dir("b"))
	see(t, rows("/a/ /a/b", "/a/"), "/a", dir("b"))
	see(t, rows("/x/ /x/f", "/x/ /x/g"), "/x", dir("f", "g"))
	see(t, rows("/x/ /x/g", "/x/ /x/f"), "/x", dir("f", "g"))
	see(t, rows("/x/ /x/f /x/i", "", "/x/ /x/h", "/x/ /x/e /x/g"), "/x", dir("e", "f", "g", "h", "i"))
	see(t, rows("/x/ /x/d/", "/x/ /x/d/", "/x/ /x/d/ /x/e"), "/x", dir("d", "e"))
	see(t, slices.Repeat(rows("/x/ /x/c/ /x/d/"), api.MaxOwners), "/x", dir("c", "d"))
	l := rows("/x/ /x/d/ /x/d/f /x/g /y/", "/x/ /x/d/ /x/d/e/ /x/d/e/q", "/y/ /y/d", "/x/ /x/a")
	see(t, l, "/x", dir("a", "d", "g"))
	see(t, l, "/x/d", dir("e", "f"))
	see(t, l, "/x/d/e", dir("q"))
	see(t, l, "/y", dir("d"))
	see(t, l, "/", dir("x", "y"))
	// A directory has no owner, whose ever it is.
	see(t, rows("", "", "/x/ /x/f", "/y/"), "/x", dir("f"))
	see(t, rows("", "", "/x/ /x/f", "/y/"), "/y", dir())
	// Each row has one name there, from the last one to the first one.
	var crowd [][]api.Leaf
	for _, name := range slices.Backward(numbered(api.MaxOwners, 2)) {
		crowd = append(crowd, leaves("/x/", "/x/"+name))
	}
	see(t, crowd, "/x", dir(numbered(api.MaxOwners, 2)...))
	for n, leaf := range deepest()[:api.MaxLeaves-2] {
		see(t, [][]api.Leaf{deepest(), deepest()[:n+1]}, leaf.Path, dir("a"))
	}
	see(t, [][]api.Leaf{deepest()}, strings.Repeat("/a", 15), dir(long(29)))
}

// P17.1: names stand byte by byte, each once, otherwise than what is written as a path.
func TestAtNames(t *testing.T) {
	see(t, rows("/a/ /a/b", "/a-b", "/a.b", "/a+ /aa"), "/", dir("a", "a+", "a-b", "a.b", "aa"))
	see(t, rows("/a/ /a/z /a-b /a0"), "/", dir("a", "a-b", "a0"))
	see(t, rows("/9", "/10", "/a", "/_", "/ab/ /ab/a", "/b", "/-", "/+", "/...", "/1"), "/", dir("+", "-", "...", "1", "10", "9", "_", "a", "ab", "b"))
	see(t, rows("/x/ /x/z /x-a", "/x/ /x/a/ /x/a/q", "/x/ /x/a-b", "/x/ /x/a/ /x/a/p", "/x/ /x/b /x.a"), "/x", dir("a", "a-b", "b", "z"))
	see(t, rows("/x/ /x/z /x-a", "/x/ /x/a/ /x/a/q", "/x/ /x/a-b", "/x/ /x/a/ /x/a/p", "/x/ /x/b /x.a"), "/", dir("x", "x-a", "x.a"))
	for range 50 {
		see(t, rows("/c /d /f", "/a /e", "/b /g"), "/", dir("a", "b", "c", "d", "e", "f", "g"))
	}
}

// P17.1: a path whose name begins with another one's is not in that.
func TestAtBegins(t *testing.T) {
	l := rows("/x/ /x/f=0 /y=0", "/x-y=1 /xf/ /xf/g=1", "/x+=2 /x.y=2 /xx=2")
	see(t, l, "/x", dir("f"))
	see(t, l, "/xf", dir("g"))
	see(t, l, "/", dir("x", "x+", "x-y", "x.y", "xf", "xx", "y"))
	see(t, l, "/x-y", file(1, "1"))
	see(t, l, "/y", file(0, "0"))
	see(t, l, "/x+", file(2, "2"))
	see(t, l, "/xx", file(2, "2"))
	nothing(t, l, "/x-", "/x/-y", "/x/g", "/x/y", "/xf/f", "/f", "/g", "/xxx", "/x/x", "/x/xf", "/xy")
	l = rows("/a/ /a/b/ /a/b/c", "/a/ /a/b-c /a/bc/", "/a/ /a/bc/ /a/bc/d")
	see(t, l, "/a", dir("b", "b-c", "bc"))
	see(t, l, "/a/b", dir("c"))
	see(t, l, "/a/bc", dir("d"))
}

// P17.1: a file has an owner, from 0 on, and bytes, of that row, none, too.
func TestAtFile(t *testing.T) {
	see(t, rows("/a"), "/a", file(0, ""))
	see(t, rows("/a=1"), "/a", file(0, "1"))
	see(t, rows("", "/a=1", ""), "/a", file(1, "1"))
	l := rows("/x/ /x/f=1 /y=7", "/x/ /x/g=2", "/x/ /x/d/ /x/d/f=3 /x/e")
	see(t, l, "/x/f", file(0, "1"))
	see(t, l, "/y", file(0, "7"))
	see(t, l, "/x/g", file(1, "2"))
	see(t, l, "/x/d/f", file(2, "3"))
	see(t, l, "/x/e", file(2, ""))
	for owner, row := range most() {
		for _, leaf := range row {
			see(t, most(), leaf.Path, file(owner, leaf.Data))
		}
	}
	for owner := range api.MaxOwners {
		l := make([][]api.Leaf, api.MaxOwners)
		l[owner] = deepest()
		see(t, l, deepest()[api.MaxLeaves-1].Path, file(owner, ""))
		see(t, l, "/a/a", dir("a"))
		l[owner] = leaves("/a="+long(199), "/b="+long(200))
		see(t, l, "/a", file(owner, long(199)))
		see(t, l, "/b", file(owner, long(200)))
	}
	// Bytes are any bytes, alike in several files, or not.
	for n := range 256 {
		data := string([]byte{byte(n)})
		l := [][]api.Leaf{{{Path: "/a", Data: data}}, {{Path: "/b", Data: data + data}}, {{Path: "/c", Data: data}}}
		see(t, l, "/a", file(0, data))
		see(t, l, "/b", file(1, data+data))
		see(t, l, "/c", file(2, data))
	}
	see(t, [][]api.Leaf{leaves("/a=/=:;\n")}, "/a", file(0, "/=:;\n"))
}

// P17.1: nothing is seen at a path that no row has, beneath a file, and deeper than all.
func TestAtNone(t *testing.T) {
	asked := []string{"/q", "/x/q", "/x/f/q", "/x/f/f", "/f", "/x/d/q", "/d", "/x/x", "/x/d/d", "/x-f", "/a/" + long(32), strings.Repeat("/x", 40), "/x/f" + strings.Repeat("/x", 38), strings.Repeat("/"+long(32), 40)}
	for _, l := range [][][]api.Leaf{nil, {}, rows(""), make([][]api.Leaf, api.MaxOwners), rows("/x/ /x/d/ /x/f"), rows("/x/ /x/f", "", "/x/ /x/d/"), rows("/x/ /x/f", "/y/"), most(), {deepest(), nil, deepest()[:15]}} {
		nothing(t, l, asked...)
	}
	nothing(t, nil, "/x", "/x/f", "/x/d")
	nothing(t, rows("/x/"), "/x/f", "/x/d", "/xx")
	nothing(t, [][]api.Leaf{deepest()}, "/a"+deepest()[15].Path, deepest()[15].Path+"/a", strings.Repeat("/a", 16), strings.Repeat("/a", 40))
}

// P17.1: what is no path: of rows that may be, of rows that clash, and of rows that may not be.
func TestAtPath(t *testing.T) {
	for _, p := range badPaths() {
		for _, l := range [][][]api.Leaf{nil, rows(""), rows("/x/ /x/f"), rows("/x", "/y"), rows("/x/ /x/f", "/x/ /x/g"), most()} {
			noSight(t, l, p, api.ErrPath)
		}
		noSight(t, rows("/x", "/x"), p, api.ErrClash)
		noSight(t, rows("/x/ /x/f", "/x"), p, api.ErrClash)
		noSight(t, rows("/x/f"), p, api.ErrPack)
		noSight(t, rows("/x", "/x", "/x/f"), p, api.ErrPack)
		noSight(t, slices.Repeat(rows("/x"), 17), p, api.ErrLong)
		noSight(t, make([][]api.Leaf, 17), p, api.ErrLong)
		noSight(t, [][]api.Leaf{{{Path: p}}}, p, api.ErrPack)
	}
	see(t, nil, "/", dir())
	nothing(t, nil, "/x", "/-", "/...", "/"+long(32), strings.Repeat("/x", 40))
}

// P17.1 to P17.3: rows that clash, whatever is asked of them; beside rows that don't, too.
func TestClash(t *testing.T) {
	for _, l := range clashing() {
		refused(t, l, api.ErrClash)
		for _, row := range l {
			for _, leaf := range row {
				noSight(t, l, leaf.Path, api.ErrClash)
			}
		}
		l = slices.Clone(l)
		slices.Reverse(l)
		refused(t, l, api.ErrClash)
		for at := range len(l) {
			if len(l) == api.MaxOwners {
				break
			}
			refused(t, slices.Insert(slices.Clone(l), at, leaves("/zz/")), api.ErrClash)
			refused(t, slices.Insert(slices.Clone(l), at, nil), api.ErrClash)
		}
	}
	l := make([][]api.Leaf, api.MaxOwners)
	for n := range api.MaxOwners {
		for m := range n {
			few := slices.Clone(l)
			few[m], few[n] = leaves("/a/"), leaves("/a")
			refused(t, few, api.ErrClash)
			few[m], few[n] = leaves("/a"), leaves("/a/", "/a/b")
			refused(t, few, api.ErrClash)
			few[m], few[n] = leaves("/a"), leaves("/a")
			refused(t, few, api.ErrClash)
		}
	}
	// One row clashes with nothing, and not what stands beside, above or beneath.
	see(t, rows("/a/ /a/b /c"), "/a/b", file(0, ""))
	see(t, rows("/x/ /x/f", "/x-f", "/xf", "/x.f"), "/x", dir("f"))
}

// P17.1 to P17.3: whatever may not be at all, in one way or in several.
func TestWrong(t *testing.T) {
	for _, one := range allWrong() {
		refused(t, one.rows, one.e)
	}
	for _, row := range badLeaves() {
		for _, good := range goodLeaves() {
			refused(t, [][]api.Leaf{good, row}, api.ErrPack)
			refused(t, [][]api.Leaf{row, good}, api.ErrPack)
		}
	}
	for at := range api.MaxOwners {
		l := make([][]api.Leaf, api.MaxOwners)
		l[at] = leaves("/a/b")
		refused(t, l, api.ErrPack)
		refused(t, append(l, nil), api.ErrLong)
	}
}

// P17.1, P17.3: rows that may be a pack's are seen as they are, alone, and with as many others as there may be.
func TestGood(t *testing.T) {
	for _, row := range goodLeaves() {
		var all []string
		for _, leaf := range row {
			all = append(all, leaf.Path)
		}
		for owner := range api.MaxOwners {
			l := make([][]api.Leaf, api.MaxOwners)
			l[owner] = row
			paths(t, l, all...)
			paths(t, l[:owner+1], all...)
			for _, leaf := range row {
				if !leaf.Dir {
					see(t, l, leaf.Path, file(owner, leaf.Data))
				}
			}
		}
	}
}

// different are sights of which each two differ, in one part alone, or in the order or the number of names, for the most: not all are seen of some rows.
func different() []api.Sight {
	return []api.Sight{
		none, dir(), file(0, ""), {Kind: 3}, {Kind: -1}, {Owner: 1}, {Owner: -1}, {Data: "x"}, {Names: []string{"x"}}, {Names: []string{""}},
		file(1, ""), file(-1, ""), file(15, ""), file(0, "x"), file(0, "y"), file(0, "X"), file(0, "xx"), file(0, "x\x00"), file(0, "\x00"), file(1, "x"), file(1, "y"), file(0, long(200)), file(0, long(199)),
		dir(""), dir("", ""), dir("a"), dir("b"), dir("A"), dir("a\x00"), dir("a", "b"), dir("b", "a"), dir("a", "a"), dir("a", "a", "a"), dir("ab"), dir("a", "b", "c"), dir("a", "c", "b"), dir("a", "b", "d"), dir("a", "d", "c"), dir("d", "b", "c"), dir("a b"), dir("a", "b", ""),
		dir(numbered(256, 3)...), dir(numbered(255, 3)...), dir(append(numbered(255, 3), "256")...),
		{Kind: 1, Names: []string{"a"}}, {Kind: 1, Owner: 1, Names: []string{"a"}}, {Kind: 2, Owner: 1}, {Kind: 2, Owner: 1, Names: []string{"a"}}, {Kind: 2, Data: "x"}, {Kind: 2, Data: "x", Names: []string{"a"}}, {Kind: 2, Data: "a"},
	}
}

// P17.1: Same tells whatever differs apart, and nothing else.
func TestSame(t *testing.T) {
	all := different()
	for n, a := range all {
		for m, b := range all {
			b.Names = slices.Clone(b.Names)
			if got := view.Same(a, b); got != (n == m) {
				t.Errorf("Same(%s, %s): %v", short(tell(a)), short(tell(b)), got)
			}
		}
	}
}

// P17.1: nil lists and empty ones are one.
func TestSameNil(t *testing.T) {
	for _, s := range []api.Sight{none, dir(), file(1, "x"), {Kind: 7, Owner: -1, Data: "y"}} {
		a, b := s, s
		a.Names, b.Names = []string{}, make([]string, 0, 3)
		if !view.Same(s, s) || !view.Same(s, a) || !view.Same(a, s) || !view.Same(a, b) || !view.Same(b, a) || !view.Same(s, b) {
			t.Errorf("Same of what is %s: false", tell(s))
		}
	}
}

// P17.3: all paths at which something is seen, but for / : of no rows, of rows of no leaves, of one, and of several, each once.
func TestPaths(t *testing.T) {
	paths(t, nil)
	paths(t, [][]api.Leaf{})
	paths(t, rows(""))
	paths(t, make([][]api.Leaf, api.MaxOwners))
	paths(t, rows("/a"), "/a")
	paths(t, rows("/a/"), "/a")
	paths(t, rows("", "/a", ""), "/a")
	paths(t, rows("/a/ /a/b/ /a/b/c/ /a/b/c/d"), "/a", "/a/b", "/a/b/c", "/a/b/c/d")
	paths(t, rows("/x/ /x/f", "/y"), "/x", "/x/f", "/y")
	paths(t, rows("/y", "/x/ /x/f"), "/x", "/x/f", "/y")
	paths(t, rows("/x/ /x/f", "/x/ /x/g"), "/x", "/x/f", "/x/g")
	paths(t, rows("/x/ /x/d/ /x/d/f", "/x/ /x/d/", "/x/ /x/d/ /x/d/g", "/x/ /x/c"), "/x", "/x/c", "/x/d", "/x/d/f", "/x/d/g")
	paths(t, slices.Repeat(rows("/x/ /x/d/"), api.MaxOwners), "/x", "/x/d")
	paths(t, rows("/c", "/b", "/a", "/d/"), "/a", "/b", "/c", "/d")
}

// P17.3: they stand in the order of paths, by names, which is not that of bytes.
func TestPathsOrder(t *testing.T) {
	paths(t, rows("/a-b", "/a/ /a/b", "/a.b"), "/a", "/a/b", "/a-b", "/a.b")
	paths(t, rows("/a/ /a/z /a+ /a-b /a0 /aa", "/a/ /a/b/ /a/b/c /a/b-c"), "/a", "/a/b", "/a/b/c", "/a/b-c", "/a/z", "/a+", "/a-b", "/a0", "/aa")
	paths(t, rows("/9", "/10", "/a", "/_", "/ab/ /ab/a", "/b", "/-"), "/-", "/10", "/9", "/_", "/a", "/ab", "/ab/a", "/b")
	for range 50 {
		paths(t, rows("/c /d /f", "/a /e", "/b /g"), "/a", "/b", "/c", "/d", "/e", "/f", "/g")
	}
	var all []string
	for _, row := range most() {
		for _, leaf := range row {
			all = append(all, leaf.Path)
		}
	}
	slices.Sort(all)
	paths(t, most(), all...)
}

// The chapter's examples, row by row.
func TestExamples(t *testing.T) {
	a, b, c := leaves("/x/", "/x/f=1"), leaves("/x/", "/x/g=2"), leaves("/y=3")
	both := [][]api.Leaf{a, b}
	see(t, both, "/x", dir("f", "g"))
	see(t, both, "/x/g", file(1, "2"))
	see(t, both, "/x/h", none)
	see(t, both, "/", dir("x"))
	noSight(t, [][]api.Leaf{a, a}, "/x", api.ErrClash)
	see(t, nil, "/x", none)
	noSight(t, [][]api.Leaf{a}, "x", api.ErrPath)
	stack(t, [][][]api.Leaf{{c}, both}, "/x/f", 1, file(0, "1"))
	stack(t, [][][]api.Leaf{{c}, both}, "/q", -1, none)
	paths(t, [][]api.Leaf{a, c}, "/x", "/x/f", "/y")
}
