package tree_test

import (
	"slices"
	"strconv"
	"strings"
	"testing"

	"puncheon/api"
	"puncheon/tree"
)

func dir(p string) api.Item {
	return api.Item{Path: p, Kind: api.KDir}
}

func file(p, data string) api.Item {
	return api.Item{Path: p, Kind: api.KFile, Data: data}
}

func link(p, text string) api.Item {
	return api.Item{Path: p, Kind: api.KLink, Data: text}
}

// of is the tree of just these items, as they come.
func of(l ...api.Item) api.Tree {
	return api.Tree{Items: l}
}

// bytes is a text of n bytes.
func bytes(n int) string {
	return strings.Repeat("\x00", n)
}

// deep is the path of n names x.
func deep(n int) string {
	return strings.Repeat("/x", n)
}

// deepDirs are the n directories of which each stands in the one ahead.
func deepDirs(n int) []api.Item {
	var l []api.Item
	for k := range n {
		l = append(l, dir(deep(k+1)))
	}
	return l
}

// many is a tree of n items, all in the directory /d.
func many(n int) api.Tree {
	l := []api.Item{dir("/d")}
	for k := range n - 1 {
		l = append(l, file("/d/"+strconv.Itoa(10000+k), strconv.Itoa(k)))
	}
	return of(l...)
}

// besides are items whose paths differ in what stands beside the slash: - + . are less than it, 0 and _ are not.
func besides() []api.Item {
	return []api.Item{
		dir("/a"), file("/a/b", "1"), dir("/a/c"), link("/a/c/+", "x"), file("/a/c/d", ""), file("/a/c+", ""), file("/a/c0", ""),
		dir("/a+"), file("/a+/b", ""), file("/a-", "2"), dir("/a.b"), dir("/a.b/a"), file("/a0", ""), link("/a_", "/"), dir("/aa"), file("/aa/b", ""), dir("/b"),
	}
}

// good are trees that may be.
func good() []api.Tree {
	return []api.Tree{
		{}, of(), {Items: []api.Item{}},
		of(dir("/a")), of(file("/a", "")), of(file("/a", "\x00\xff")), of(link("/a", "f")), of(link("/a", "\x00")), of(link("/a", "no path at all")),
		of(link("/a", bytes(api.MaxLong-1))), of(link("/a", bytes(api.MaxLong))),
		of(file("/a", bytes(api.MaxFile-1))), of(file("/a", bytes(api.MaxFile))), of(file("/a", bytes(api.MaxFile)), file("/b", bytes(api.MaxFile))),
		of(dir("/a"), file("/a/f", "\x07"), link("/a/l", "f")), of(dir("/a"), dir("/a/b"), dir("/a/b/c"), file("/a/b/c/d", "1"), file("/a/e", "2"), file("/b", "3")),
		of(dir("/..."), dir("/.../..."), file("/.../.../-", "")), of(besides()...),
		of(deepDirs(api.MaxDepth - 1)...), of(deepDirs(api.MaxDepth)...), of(file("/"+strings.Repeat("n", api.MaxName), "")),
		many(api.MaxItems - 1), many(api.MaxItems),
	}
}

// badItems are items that may stand in no tree, whatever else does.
func badItems() []api.Item {
	l := []api.Item{
		{}, {Path: "/a"}, {Path: "/a", Kind: 0, Data: "x"}, {Path: "/a", Kind: 4}, {Path: "/a", Kind: 4, Data: "x"}, {Path: "/a", Kind: -1}, {Path: "/a", Kind: -1 << 63}, {Path: "/a", Kind: 1<<63 - 1, Data: "x"},
		{Path: "/a", Kind: api.KDir, Data: "x"}, {Path: "/a", Kind: api.KDir, Data: "\x00"}, {Path: "/a", Kind: api.KDir, Data: bytes(api.MaxFile + 1)},
		link("/a", ""), link("/a", bytes(api.MaxLong+1)), link("/a", bytes(api.MaxFile)),
		file("/a", bytes(api.MaxFile+1)),
	}
	for _, p := range badPaths() {
		l = append(l, dir(p), file(p, ""), link(p, "x"))
	}
	return append(l, dir("/"), file("/", ""), link("/", "x"))
}

// badPaths are no paths.
func badPaths() []string {
	return []string{
		"", "a", "a/b", "//", "/a/", "/a//b", "//a", "/A", "/.", "/..", "/a/..", "/a/.", "/a b", "/a\x00", "/\xff", ".", "..", "/é",
		"/" + strings.Repeat("n", api.MaxName+1), deep(api.MaxDepth + 1), strings.Repeat("/", 1<<12), strings.Repeat("/a", 1<<12),
	}
}

// lost are lists of items of which one has its path without the last name at nothing, or at no directory. In no order they are a tree.
func lost() [][]api.Item {
	return [][]api.Item{
		{dir("/a/b")}, {file("/a/b", "")}, {link("/a/b", "x")}, {dir("/a"), file("/a/b/c", "")}, {dir("/a"), dir("/a/b"), dir("/a/c/d")},
		{file("/a", ""), file("/a/b", "")}, {file("/a", ""), dir("/a/b")}, {link("/a", "b"), file("/a/b", "")}, {link("/a", "/b"), file("/a/c", ""), dir("/b")},
		{dir("/a"), file("/a/b", ""), file("/a/b/c", "")}, {dir("/a"), link("/a/b", "/a"), file("/a/b/c", "")}, {dir("/a"), link("/a/b", "c"), dir("/a/b/c"), dir("/a/c")},
		{dir("/a"), dir("/aa/b")}, {dir("/a"), dir("/a.b/c")}, {dir("/a"), dir("/a-/c")}, {dir("/a.b"), dir("/a/b")}, {dir("/a0"), dir("/a/0")},
		{dir("/b"), dir("/a/b")}, {dir("/a"), dir("/b/c"), dir("/c")}, {dir("/a"), dir("/a/x"), dir("/b"), dir("/b/y/z")}, {dir("/a"), file("/a/x", ""), dir("/b"), file("/b/y", ""), file("/b/y/z", "")},
		deepDirs(4)[1:], slices.Delete(deepDirs(api.MaxDepth), 20, 21), deepDirs(api.MaxDepth)[api.MaxDepth-1:],
		{dir("/a"), dir("/a/b"), file("/a/b/c", ""), file("/a/c/c", "")}, {file("/a/a", ""), file("/b", "")}, {dir("/a"), dir("/c"), dir("/b/x")},
	}
}

// doubled are lists of items two of which have one path. In no order they are a tree.
func doubled() [][]api.Item {
	return [][]api.Item{
		{dir("/a"), dir("/a")}, {file("/a", "1"), file("/a", "2")}, {dir("/a"), file("/a", "")}, {file("/a", ""), dir("/a"), dir("/a/b")}, {dir("/a"), dir("/a"), dir("/a/b")},
		{dir("/a"), file("/a/b", ""), file("/a/b", ""), dir("/c")}, {dir("/a"), dir("/b"), link("/b", "a"), dir("/c")}, append(besides(), besides()...),
	}
}

// unordered are items of a tree that do not rise.
func unordered() [][]api.Item {
	bytewise := besides()
	slices.SortFunc(bytewise, func(a, b api.Item) int { return strings.Compare(a.Path, b.Path) })
	swapped := besides()
	swapped[1], swapped[2] = swapped[2], swapped[1]
	last := many(api.MaxItems).Items
	last[api.MaxItems-1], last[api.MaxItems-2] = last[api.MaxItems-2], last[api.MaxItems-1]
	return [][]api.Item{
		{dir("/b"), dir("/a")}, {file("/a/b", ""), dir("/a")}, {dir("/a"), dir("/b"), file("/a/f", "")}, {dir("/a"), dir("/a.b"), dir("/a/b")}, {dir("/a-"), dir("/a")}, {dir("/a"), dir("/a-"), file("/a/b", "")},
		{dir("/a"), dir("/a/10"), dir("/a/1")}, {dir("/a"), file("/a/f", ""), dir("/c"), dir("/b")}, {dir("/a"), dir("/a/b"), dir("/a/c"), file("/a/b/d", "")},
		bytewise, swapped, last,
	}
}

// bad are trees that may not be.
func bad() []api.Tree {
	var l []api.Tree
	for _, item := range badItems() {
		l = append(l, of(item), of(item, dir("/z")), of(dir("/0"), item), of(dir("/0"), item, dir("/z")))
	}
	for _, items := range slices.Concat(lost(), doubled(), unordered()) {
		l = append(l, of(items...))
	}
	return append(l, many(api.MaxItems+1), many(api.MaxItems+100))
}

// mixed answers the items in several other orders.
func mixed(l []api.Item) [][]api.Item {
	back := slices.Clone(l)
	slices.Reverse(back)
	all := [][]api.Item{back}
	for n := range min(len(l), 20) {
		all = append(all, slices.Concat(l[n:], l[:n]), slices.Concat(back[n:], back[:n]))
	}
	var odd, even []api.Item
	for n, item := range l {
		if n%2 == 0 {
			even = append(even, item)
		} else {
			odd = append(odd, item)
		}
	}
	return append(all, slices.Concat(odd, even))
}

// P6.1: Check.
func TestCheck(t *testing.T) {
	for _, now := range good() {
		if e := tree.Check(now); e != api.OK {
			t.Errorf("Check(%.200v): %d", now, e)
		}
	}
	for _, now := range bad() {
		if e := tree.Check(now); e != api.ErrTree {
			t.Errorf("Check(%.200v): %d", now, e)
		}
	}
}

// P6.1: Same.
func TestSame(t *testing.T) {
	all := append(good()[2:], bad()...)
	for n, a := range all {
		for k, b := range all {
			same := slices.Equal(a.Items, b.Items)
			if got := tree.Same(a, of(slices.Clone(b.Items)...)); got != same || n == k && !got {
				t.Fatalf("Same(%.200v, %.200v): %v", a, b, got)
			}
		}
	}
	for _, c := range [][2]api.Tree{{{}, of()}, {{}, {Items: []api.Item{}}}, {{Items: make([]api.Item, 0, 3)}, {}}} {
		if !tree.Same(c[0], c[1]) || !tree.Same(c[1], c[0]) {
			t.Errorf("no Same of %v and %v", c[0], c[1])
		}
	}
	for _, c := range [][2]api.Tree{
		{of(dir("/a")), {}},
		{of(dir("/a")), of(dir("/b"))},
		{of(dir("/a")), of(file("/a", ""))},
		{of(file("/a", "f")), of(link("/a", "f"))},
		{of(file("/a", "1")), of(file("/a", "2"))},
		{of(file("/a", "1")), of(file("/a", ""))},
		{of(dir("/a"), dir("/b")), of(dir("/a"))},
		{of(dir("/a"), dir("/b")), of(dir("/b"))},
		{of(dir("/a"), dir("/b")), of(dir("/a"), dir("/c"))},
		{of(dir("/a"), dir("/b")), of(dir("/b"), dir("/a"))},
		{of(dir("/a"), file("/a/f", "x"), dir("/b")), of(dir("/a"), file("/a/f", "y"), dir("/b"))},
	} {
		if tree.Same(c[0], c[1]) || tree.Same(c[1], c[0]) {
			t.Errorf("Same of %v and %v", c[0], c[1])
		}
	}
}

// P6.1, P6.6: Of, in whatever order the items come.
func TestOf(t *testing.T) {
	for _, want := range good() {
		for _, l := range append(mixed(want.Items), want.Items) {
			if got, e := tree.Of(l); e != api.OK || !slices.Equal(got.Items, want.Items) {
				t.Errorf("Of(%.200v): %.200v %d", l, got, e)
			}
		}
	}
	for n, l := range unordered() {
		got, e := tree.Of(l)
		if e != api.OK || tree.Check(got) != api.OK || len(got.Items) != len(l) {
			t.Errorf("Of unordered items %d: %.200v %d", n, got, e)
		}
	}
}

// P6.1: Of, of items that are no tree's in any order.
func TestOfBad(t *testing.T) {
	lists := slices.Concat(lost(), doubled(), [][]api.Item{many(api.MaxItems + 1).Items, many(2 * api.MaxItems).Items})
	for _, item := range badItems() {
		lists = append(lists, []api.Item{item}, []api.Item{dir("/0"), item, dir("/z")})
	}
	for _, list := range lists {
		for _, l := range append(mixed(list), list) {
			if got, e := tree.Of(l); e != api.ErrTree || len(got.Items) != 0 {
				t.Errorf("Of(%.200v): %.200v %d", l, got, e)
			}
		}
	}
}

// P6.2: Get.
func TestGet(t *testing.T) {
	for _, now := range good() {
		for _, want := range now.Items {
			if got, is := tree.Get(now, want.Path); got != want || !is {
				t.Errorf("Get(%q): %.100v %v", want.Path, got, is)
			}
		}
		if got, is := tree.Get(now, "/"); got != dir("/") || !is {
			t.Errorf("Get of /: %v %v", got, is)
		}
		for _, p := range append(badPaths(), "/a/b/q", "/q", "/zz", "/0", "/a-b", "/d/1", "/d/2") {
			if got, is := tree.Get(now, p); got != (api.Item{}) || is {
				t.Errorf("Get(%.50q): %.100v %v", p, got, is)
			}
		}
	}
}

// P6.2: Below.
func TestBelow(t *testing.T) {
	b := besides()
	for _, c := range []struct {
		dir  string
		want []api.Item
	}{
		{"/", b}, {"/a", b[1:7]}, {"/a/c", b[3:5]}, {"/a+", b[8:9]}, {"/a.b", b[11:12]}, {"/aa", b[15:16]},
		{"/b", nil}, {"/a.b/a", nil}, {"/a/b", nil}, {"/a-", nil}, {"/a/c/+", nil}, {"/a_", nil}, {"/a/c/d", nil},
		{"/q", nil}, {"/a/q", nil}, {"/0", nil}, {"/a.", nil}, {"/a/b/c", nil}, {"/zz", nil},
	} {
		if got := tree.Below(of(b...), c.dir); !slices.Equal(got, c.want) {
			t.Errorf("Below(%q): %v", c.dir, got)
		}
	}
	for n := range api.MaxDepth {
		if got := tree.Below(of(deepDirs(api.MaxDepth)...), deep(n+1)); !slices.Equal(got, deepDirs(api.MaxDepth)[n+1:]) {
			t.Errorf("Below of %d names: %v", n+1, got)
		}
	}
	if got := tree.Below(many(api.MaxItems), "/d"); !slices.Equal(got, many(api.MaxItems).Items[1:]) {
		t.Errorf("Below of a full tree: %d items", len(got))
	}
}

// P6.2: Kids.
func TestKids(t *testing.T) {
	for d, want := range map[string]string{
		"/": "a a+ a- a.b a0 a_ aa b", "/a": "b c c+ c0", "/a/c": "+ d", "/a+": "b", "/a.b": "a", "/aa": "b",
		"/b": "", "/a.b/a": "", "/a/b": "", "/a-": "", "/a/c/+": "", "/a_": "", "/q": "", "/a/q": "", "/a/b/c": "", "/a.": "", "/zz": "",
	} {
		if got := tree.Kids(of(besides()...), d); !slices.Equal(got, strings.Fields(want)) {
			t.Errorf("Kids(%q): %q", d, got)
		}
	}
	if got := tree.Kids(of(deepDirs(api.MaxDepth)...), "/"); !slices.Equal(got, []string{"x"}) {
		t.Errorf("Kids of /: %q", got)
	}
	if got := tree.Kids(many(api.MaxItems), "/d"); len(got) != api.MaxItems-1 || got[0] != "10000" || got[api.MaxItems-2] != "11998" {
		t.Errorf("Kids of a full tree: %d", len(got))
	}
}

// P6.2: of a tree that may not be, or of what is no path, and of the empty tree.
func TestAskBad(t *testing.T) {
	ask := func(now api.Tree, p string, named string) {
		t.Helper()
		if got, is := tree.Get(now, p); got != (api.Item{}) || is {
			t.Errorf("Get(%s, %.50q): %.100v %v", named, p, got, is)
		}
		if got := tree.Below(now, p); len(got) != 0 {
			t.Errorf("Below(%s, %.50q): %.100v", named, p, got)
		}
		if got := tree.Kids(now, p); len(got) != 0 {
			t.Errorf("Kids(%s, %.50q): %.100v", named, p, got)
		}
	}
	for n, now := range bad() {
		for _, p := range []string{"/", "/a", "/a/b", "/0", "/z", "/d", "/d/10000", "", "a"} {
			ask(now, p, "bad tree "+strconv.Itoa(n))
		}
		for _, item := range now.Items[:min(len(now.Items), 3)] {
			ask(now, item.Path, "bad tree "+strconv.Itoa(n))
		}
	}
	for n, now := range good() {
		for _, p := range badPaths() {
			ask(now, p, "good tree "+strconv.Itoa(n))
		}
	}
	for _, now := range []api.Tree{{}, of(), {Items: []api.Item{}}} {
		ask(now, "/a", "the empty tree")
		if got, is := tree.Get(now, "/"); got != dir("/") || !is || len(tree.Below(now, "/")) != 0 || len(tree.Kids(now, "/")) != 0 {
			t.Errorf("of the empty tree: %v %v", got, is)
		}
	}
}

// The chapter's examples, row by row.
func TestExamples(t *testing.T) {
	var now api.Tree
	do := func(op api.Op, want api.Errno) {
		t.Helper()
		after, e := tree.Do(now, op)
		if e != want {
			t.Errorf("%v: %d, not %d", op, e, want)
		}
		if e == api.OK {
			now = after
		}
	}
	do(mkdir("/a"), api.OK)
	do(write("/a/f", "\x07"), api.OK)
	do(symlink("/a/l", "f"), api.OK)
	do(mkdir("/b/c"), api.ErrNone)
	do(write("/a/f/x", ""), api.ErrKind)
	do(extend("/a/f", "\x08"), api.OK)
	do(write("/a/l", "\x09"), api.ErrKind)
	do(mkdir("/"), api.ErrThere)
	do(rmdir("/a"), api.ErrBusy)
	do(unlink("/a"), api.ErrKind)
	do(move("/a", "/a/b"), api.ErrArg)
	do(move("/a", "/z"), api.OK)
	if got, is := tree.Get(now, "/z/f"); got != file("/z/f", "\x07\x08") || !is {
		t.Errorf("Get: %v %v", got, is)
	}
	if l, top := tree.Kids(now, "/z"), tree.Kids(now, "/"); !slices.Equal(l, []string{"f", "l"}) || !slices.Equal(top, []string{"z"}) {
		t.Errorf("Kids: %q %q", l, top)
	}
	do(unlink("/z/l"), api.OK)
	do(unlink("/z/f"), api.OK)
	do(rmdir("/z"), api.OK)
	do(rmdir("/"), api.ErrBusy)
	if !tree.Same(now, api.Tree{}) {
		t.Errorf("left: %v", now)
	}
}
