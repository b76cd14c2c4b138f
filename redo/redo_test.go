package redo_test

import (
	"fmt"
	"math"
	"slices"
	"strconv"
	"strings"
	"testing"

	"puncheon/api"
	"puncheon/redo"
	"puncheon/tree"
)

func dir(p string) api.Item        { return api.Item{Path: p, Kind: api.KDir} }
func file(p, data string) api.Item { return api.Item{Path: p, Kind: api.KFile, Data: data} }
func link(p, says string) api.Item { return api.Item{Path: p, Kind: api.KLink, Data: says} }
func of(l ...api.Item) api.Tree    { return api.Tree{Items: l} }

func put(item api.Item) api.Redo   { return api.Redo{Kind: api.RePut, Item: item} }
func drop(p string) api.Redo       { return api.Redo{Kind: api.ReDrop, Item: api.Item{Path: p}} }
func move(p, to string) api.Redo   { return api.Redo{Kind: api.ReMove, Item: api.Item{Path: p}, To: to} }
func row(l ...api.Redo) []api.Redo { return l }

// ops reads operations: each is a word for its kind, its path, and what else it has, if anything.
func ops(s string) []api.Op {
	kinds := map[string]int{"mkdir": api.OpMkdir, "write": api.OpWrite, "link": api.OpLink, "move": api.OpMove, "unlink": api.OpUnlink, "rmdir": api.OpRmdir}
	var l []api.Op
	for said := range strings.SplitSeq(s, ", ") {
		if said == "" {
			continue
		}
		words := append(strings.Split(said, " "), "")
		op := api.Op{Kind: kinds[words[0]], Path: words[1], Data: words[2]}
		if op.Kind == api.OpMove {
			op.To, op.Data = op.Data, ""
		}
		l = append(l, op)
	}
	return l
}

// wrong tells what is otherwise than it has to be, each thing cut short.
func wrong(t *testing.T, format string, l ...any) {
	t.Helper()
	for n := range l {
		s := fmt.Sprint(l[n])
		l[n] = strings.ToValidUTF8(s[:min(len(s), 400)], "?")
	}
	t.Errorf(format, l...)
}

// bytes is a text of n bytes.
func bytes(n int) string {
	return strings.Repeat("\x00", n)
}

// deep is a path of n names.
func deep(n int) string {
	return strings.Repeat("/x", n)
}

// some is the tree at which most redos here are done.
func some() api.Tree {
	return of(dir("/a"), file("/a/f", "12"), link("/a/l", "f"), dir("/a-"), file("/a-/g", ""), dir("/c"), dir("/c/d"), dir("/c/d/e"), file("/c/d/e/f", ""), file("/c/d.e", "3"), dir("/e"), link("/l", "/a"), file("/x", "4"))
}

// crowd is a tree of so many items.
func crowd(many int) api.Tree {
	l := []api.Item{dir("/d")}
	for n := range many - 1 {
		l = append(l, file("/d/"+strconv.Itoa(10000+n), strconv.Itoa(n)))
	}
	return of(l...)
}

// badTrees are trees that may not be.
func badTrees() []api.Tree {
	return []api.Tree{
		crowd(api.MaxItems + 1), of(file("/a", bytes(api.MaxFile+1))), of(api.Item{}), of(api.Item{Path: "/a"}), of(api.Item{Path: "/a", Kind: 4}), of(dir("/")), of(dir("a")), of(dir("/a/b")),
		of(api.Item{Path: "/a", Kind: api.KDir, Data: "1"}), of(link("/a", "")), of(link("/a", bytes(api.MaxLong+1))), of(file("/a", ""), file("/a/b", "")), of(link("/a", "x"), file("/a/b", "")),
		of(dir("/b"), dir("/a")), of(dir("/a"), dir("/a")), of(dir("/a"), api.Item{}), of(dir("/a"), dir("/a-"), dir("/a/b")),
	}
}

// good are redos that may be.
func good() []api.Redo {
	long := "/" + strings.Repeat("n", api.MaxName)
	return []api.Redo{
		put(dir("/a")), put(dir("/a/b")), put(dir(deep(api.MaxDepth))), put(dir(long)), put(dir("/.a")), put(dir("/a-/+_.0")),
		put(file("/a", "")), put(file("/a/b", "\x00;:/\xff")), put(file("/a", bytes(api.MaxFile))), put(file(deep(api.MaxDepth), "1")),
		put(link("/a", "1")), put(link("/a/b", "/a/b")), put(link("/a", bytes(api.MaxLong))), put(link(deep(api.MaxDepth), "..")),
		drop("/a"), drop("/a/b"), drop(deep(api.MaxDepth)), drop(long),
		move("/a", "/b"), move("/a/b", "/a/c"), move("/a", "/a-"), move("/a-", "/a"), move("/a/b", "/ab"), move("/a/b", "/b/a"), move("/a", "/ab/a"), move("/ab", "/a/ab"), move(deep(api.MaxDepth), long), move(long, deep(api.MaxDepth)), move("/x/y", deep(api.MaxDepth)),
	}
}

// noPaths are texts that are no path of an item.
var noPaths = []string{"", "/", "a", "a/b", "/a/", "//", "//a", "/a//b", "/.", "/..", "/a/..", "/./a", "/A", "/a b", "/a\n", "/\x00", "/\xff", "/é", "/" + strings.Repeat("n", api.MaxName+1), deep(api.MaxDepth + 1), bytes(3000)}

// bad are redos that may not be, each by one of its parts.
func bad() []api.Redo {
	l := []api.Redo{{}}
	for _, r := range []api.Redo{put(dir("/a")), put(file("/a", "1")), put(link("/a", "1")), drop("/a"), move("/a", "/b")} {
		for _, kind := range []int{0, 4, 5, -1, -2, -3, math.MinInt, math.MaxInt, 1 << 32, 1<<32 + 1, 1<<32 + 2, 1<<32 + 3} {
			r.Kind = kind
			l = append(l, r)
		}
	}
	for _, p := range noPaths {
		l = append(l, put(dir(p)), put(file(p, "")), put(file(p, "1")), put(link(p, "1")), drop(p), move(p, "/b"), move("/b", p), move(p, p))
	}
	l = append(l, put(file("/a", bytes(api.MaxFile+1))), put(link("/a", bytes(api.MaxLong+1))), put(link("/a", "")), put(api.Item{Path: "/a", Kind: api.KDir, Data: "1"}))
	for _, kind := range []int{0, 4, 5, 7, -1, math.MinInt, math.MaxInt, 1<<32 + 1} {
		l = append(l, put(api.Item{Path: "/a", Kind: kind}), put(api.Item{Path: "/a", Kind: kind, Data: "1"}))
	}
	for _, item := range []api.Item{dir("/a"), file("/a", ""), file("/a", "1"), link("/a", "1"), {Path: "/a", Data: "1"}, {Path: "/a", Kind: 4}, {Path: "/a", Kind: -1}} {
		l = append(l, api.Redo{Kind: api.ReDrop, Item: item}, api.Redo{Kind: api.ReMove, Item: item, To: "/b"})
	}
	for _, to := range []string{"/", "/a", "/b", "b", "x", "\x00"} {
		for _, r := range []api.Redo{put(dir("/a")), put(file("/a", "1")), put(link("/a", "1")), drop("/a")} {
			r.To = to
			l = append(l, r)
		}
	}
	return append(l, move("/a", "/a"), move("/a", "/a/b"), move("/a/b", "/a"), move("/a", "/a/b/c"), move("/a/b/c", "/a"), move("/a/b", "/a/b"), move("/a", ""), move("", "/a"), move("", ""), move("/a", "/"), move("/", "/a"), move("/", "/"), move(deep(api.MaxDepth), deep(api.MaxDepth-1)), move(deep(1), deep(api.MaxDepth)))
}

// P12.1: Check.
func TestCheck(t *testing.T) {
	for _, r := range good() {
		if e := redo.Check(r); e != api.OK {
			wrong(t, "Check(%v): %v", r, e)
		}
	}
	for _, r := range bad() {
		if e := redo.Check(r); e != api.ErrRedo {
			wrong(t, "Check(%v): %v", r, e)
		}
	}
}

// comes asks for the operations of r, and tells what is otherwise than these.
func comes(t *testing.T, now api.Tree, r api.Redo, want string) {
	t.Helper()
	got, e := redo.Ops(now, r)
	if e != api.OK || !slices.Equal(got, ops(want)) {
		wrong(t, "Ops(%v, %v): %v %v, not %v", now, r, got, e, want)
	}
	after, many, e := tree.Run(now, got)
	if e != api.OK || many != len(got) {
		wrong(t, "Ops(%v, %v): %v: the error of %v is %v", now, r, got, many, e)
	}
	if behind, all, e := redo.Apply(now, row(r)); e != api.OK || !slices.Equal(all, got) || !tree.Same(behind, after) {
		wrong(t, "Apply(%v, %v): %v %v %v", now, r, behind, all, e)
	}
}

// refused asks for the operations of redos, and tells what is otherwise than that error.
func refused(t *testing.T, now api.Tree, want api.Errno, l ...api.Redo) {
	t.Helper()
	for _, r := range l {
		if got, e := redo.Ops(now, r); len(got) != 0 || e != want {
			wrong(t, "Ops(%v, %v): %v %v, not %v", now, r, got, e, want)
		}
		fails(t, now, want, r)
	}
}

// fails applies redos, and tells what is otherwise than that error.
func fails(t *testing.T, now api.Tree, want api.Errno, l ...api.Redo) {
	t.Helper()
	if after, all, e := redo.Apply(now, l); len(after.Items) != 0 || len(all) != 0 || e != want {
		wrong(t, "Apply(%v, %v): %v %v %v, not %v", now, l, after, all, e, want)
	}
}

// P12.2 to P12.5: the chapter's examples.
func TestExamples(t *testing.T) {
	now := of(dir("/a"), file("/a/f", "\x01"))
	comes(t, now, put(file("/a/f", "\x01")), "")
	comes(t, now, put(file("/a/f", "\x02")), "write /a/f \x02")
	comes(t, now, put(link("/a", "x")), "unlink /a/f, rmdir /a, link /a x")
	refused(t, now, api.ErrStuck, put(dir("/b/c")), put(file("/b/c", "")), put(link("/b/c", "x")))
	comes(t, now, drop("/b"), "")
	comes(t, now, move("/a", "/b"), "move /a /b")
	b := of(link("/a", "x"), dir("/b"))
	lies(t, now, b, drop("/a"), put(link("/a", "x")), put(dir("/b")))
	encodes(t, "2;2:/a", drop("/a"))
}

// P12.2: a RePut of each kind of item where it stands already, or nothing does.
func TestPut(t *testing.T) {
	for _, item := range some().Items {
		comes(t, some(), put(item), "")
	}
	for _, p := range []string{"/b", "/a/b", "/a./b", "/c/d/e/g", "/e/e", "/0", "/zz"} {
		if p == "/a./b" {
			refused(t, some(), api.ErrStuck, put(dir(p)), put(file(p, "")), put(link(p, "t")))
			continue
		}
		comes(t, some(), put(dir(p)), "mkdir "+p)
		comes(t, some(), put(file(p, "")), "write "+p)
		comes(t, some(), put(file(p, "56")), "write "+p+" 56")
		comes(t, some(), put(link(p, "t")), "link "+p+" t")
	}
	comes(t, api.Tree{}, put(dir("/a")), "mkdir /a")
	comes(t, api.Tree{}, put(file("/a", bytes(api.MaxFile))), "write /a "+bytes(api.MaxFile))
	comes(t, api.Tree{}, put(link("/a", bytes(api.MaxLong))), "link /a "+bytes(api.MaxLong))
}

// P12.2: a RePut where something else stands.
func TestPutOver(t *testing.T) {
	// A file on a file, on a link, on an empty directory, on a full one.
	comes(t, some(), put(file("/x", "")), "write /x")
	comes(t, some(), put(file("/x", "45")), "write /x 45")
	comes(t, some(), put(file("/a-/g", "1")), "write /a-/g 1")
	comes(t, some(), put(file("/l", "")), "unlink /l, write /l")
	comes(t, some(), put(file("/l", "/a")), "unlink /l, write /l /a")
	comes(t, some(), put(file("/e", "1")), "rmdir /e, write /e 1")
	comes(t, some(), put(file("/a", "1")), "unlink /a/l, unlink /a/f, rmdir /a, write /a 1")
	comes(t, some(), put(file("/c", "1")), "unlink /c/d.e, unlink /c/d/e/f, rmdir /c/d/e, rmdir /c/d, rmdir /c, write /c 1")
	// A directory on a file, on a link; one that stands there is left as it is, with all beneath.
	comes(t, some(), put(dir("/x")), "unlink /x, mkdir /x")
	comes(t, some(), put(dir("/c/d/e/f")), "unlink /c/d/e/f, mkdir /c/d/e/f")
	comes(t, some(), put(dir("/l")), "unlink /l, mkdir /l")
	comes(t, some(), put(dir("/c")), "")
	// A link on a file, on a link that says something else, on an empty directory, on a full one.
	comes(t, some(), put(link("/x", "4")), "unlink /x, link /x 4")
	comes(t, some(), put(link("/l", "/a/")), "unlink /l, link /l /a/")
	comes(t, some(), put(link("/e", "a")), "rmdir /e, link /e a")
	comes(t, some(), put(link("/a-", "a")), "unlink /a-/g, rmdir /a-, link /a- a")
	comes(t, some(), put(link("/c/d", "d.e")), "unlink /c/d/e/f, rmdir /c/d/e, rmdir /c/d, link /c/d d.e")
}

// P12.2: a RePut that is stuck, as its path without the last name has nothing, a file, or a link.
func TestPutStuck(t *testing.T) {
	for _, p := range []string{"/b/c", "/a/b/c", "/a./b", "/x/y", "/a/f/x", "/l/f", "/a/l/x", "/l/x/y", "/c/d.e/f", "/no/such/place", deep(api.MaxDepth)} {
		refused(t, some(), api.ErrStuck, put(dir(p)), put(file(p, "")), put(file(p, "12")), put(link(p, "f")))
	}
	refused(t, api.Tree{}, api.ErrStuck, put(dir("/a/b")), put(file("/a/b", "")), put(link("/a/b", "x")), put(dir(deep(api.MaxDepth))))
}

// P12.2: a ReDrop of nothing, of a file, a link, an empty directory, one with much beneath it.
func TestDrop(t *testing.T) {
	for _, p := range []string{"/b", "/a/b", "/a.", "/b/c", "/x/y", "/l/f", "/a/f/x/y", deep(api.MaxDepth)} {
		comes(t, some(), drop(p), "")
		comes(t, api.Tree{}, drop(p), "")
	}
	comes(t, some(), drop("/x"), "unlink /x")
	comes(t, some(), drop("/a/f"), "unlink /a/f")
	comes(t, some(), drop("/l"), "unlink /l")
	comes(t, some(), drop("/e"), "rmdir /e")
	comes(t, some(), drop("/a"), "unlink /a/l, unlink /a/f, rmdir /a")
	comes(t, some(), drop("/c"), "unlink /c/d.e, unlink /c/d/e/f, rmdir /c/d/e, rmdir /c/d, rmdir /c")
	comes(t, some(), drop("/c/d"), "unlink /c/d/e/f, rmdir /c/d/e, rmdir /c/d")
	full := crowd(api.MaxItems)
	got, e := redo.Ops(full, drop("/d"))
	if e != api.OK || len(got) != api.MaxItems || got[api.MaxItems-1] != (api.Op{Kind: api.OpRmdir, Path: "/d"}) {
		t.Fatalf("Ops of a full tree: %d %d", len(got), e)
	}
	for n, op := range got[:api.MaxItems-1] {
		if op != (api.Op{Kind: api.OpUnlink, Path: full.Items[api.MaxItems-1-n].Path}) {
			t.Fatalf("Ops of a full tree: %d is %v", n, op)
		}
	}
}

// P12.2: a ReMove of nothing, of a file, a link, a directory, onto nothing, a file, a link, an empty directory, a full one.
func TestMove(t *testing.T) {
	for _, p := range []string{"/b", "/a./b", "/b/c", "/x/y", "/a/f/y", "/l/g"} {
		for _, to := range []string{"/zz", "/e", "/a-", "/c/d", "/no/such", "/c/d.e/f", "/0" + deep(api.MaxDepth-1)} {
			comes(t, some(), move(p, to), "")
		}
	}
	for _, p := range []string{"/x", "/l", "/a", "/c"} {
		for _, to := range []string{"/zz", "/e/e", "/a-/b", "/0"} {
			comes(t, some(), move(p, to), "move "+p+" "+to)
		}
	}
	comes(t, some(), move("/x", "/a/f"), "unlink /a/f, move /x /a/f")
	comes(t, some(), move("/x", "/l"), "unlink /l, move /x /l")
	comes(t, some(), move("/x", "/e"), "rmdir /e, move /x /e")
	comes(t, some(), move("/x", "/a"), "unlink /a/l, unlink /a/f, rmdir /a, move /x /a")
	comes(t, some(), move("/l", "/x"), "unlink /x, move /l /x")
	comes(t, some(), move("/c/d/e", "/c/d.e"), "unlink /c/d.e, move /c/d/e /c/d.e")
	comes(t, some(), move("/a", "/x"), "unlink /x, move /a /x")
	comes(t, some(), move("/a", "/l"), "unlink /l, move /a /l")
	comes(t, some(), move("/a", "/e"), "rmdir /e, move /a /e")
	comes(t, some(), move("/a", "/c"), "unlink /c/d.e, unlink /c/d/e/f, rmdir /c/d/e, rmdir /c/d, rmdir /c, move /a /c")
	comes(t, some(), move("/c/d", "/a-"), "unlink /a-/g, rmdir /a-, move /c/d /a-")
	// What is to be at To is there, and what was at the Item's path is not, to be moved a second time.
	comes(t, of(dir("/b"), file("/b/f", "")), move("/a", "/b"), "")
}

// P12.2: a ReMove that is stuck: its To has no directory, or one of the paths would be too deep; what is cleared ahead of that is not told.
func TestMoveStuck(t *testing.T) {
	for _, p := range []string{"/x", "/l", "/a", "/e", "/c/d", "/a/f"} {
		refused(t, some(), api.ErrStuck, move(p, "/no/x"), move(p, "/no/such/x"), move(p, "/c/d.e/f"), move(p, "/a-/g/x"), move(p, "/a-/g/x/y"), move(p, "/0"+deep(api.MaxDepth-1)))
	}
	refused(t, some(), api.ErrStuck, move("/a", "/x/y"), move("/a", "/l/a"), move("/x", "/a/l/x"), move("/a/f", "/a/l/x"))
	var high []api.Item
	for n := 1; n < api.MaxDepth; n++ {
		high = append(high, dir(deep(n)))
	}
	last := deep(api.MaxDepth)
	comes(t, of(append([]api.Item{dir("/a")}, high...)...), move("/a", last), "move /a "+last)
	refused(t, of(append([]api.Item{dir("/a"), file("/a/f", "")}, high...)...), api.ErrStuck, move("/a", last))
	refused(t, of(append(append([]api.Item{dir("/a"), file("/a/f", "")}, high...), file(last, "1"))...), api.ErrStuck, move("/a", last))
	comes(t, of(append(append([]api.Item{link("/a", "f")}, high...), file(last, "1"))...), move("/a", last), "unlink "+last+", move /a "+last)
}

// P12.2, P12.3: a tree of MaxItems items, and one of one less.
func TestFull(t *testing.T) {
	full, less := crowd(api.MaxItems), crowd(api.MaxItems-1)
	name := full.Items[7].Path
	for _, p := range []string{"/e", "/d/e"} {
		refused(t, full, api.ErrStuck, put(dir(p)), put(file(p, "")), put(file(p, "1")), put(link(p, "x")))
		comes(t, less, put(dir(p)), "mkdir "+p)
		comes(t, less, put(file(p, "1")), "write "+p+" 1")
		comes(t, less, put(link(p, "x")), "link "+p+" x")
		comes(t, full, move(name, p), "move "+name+" "+p)
	}
	comes(t, full, move("/d", "/e"), "move /d /e")
	comes(t, full, put(full.Items[7]), "")
	comes(t, full, put(dir("/d")), "")
	comes(t, full, put(file(name, "new")), "write "+name+" new")
	comes(t, full, put(dir(name)), "unlink "+name+", mkdir "+name)
	comes(t, full, put(link(name, "x")), "unlink "+name+", link "+name+" x")
	fails(t, less, api.ErrStuck, put(dir("/e")), put(dir("/f")))
	fails(t, less, api.ErrStuck, put(dir("/e")), put(dir("/e")), put(file("/e/f", "")))
	applies(t, full, of(append(slices.Clone(less.Items), dir("/e"))...), "unlink "+full.Items[api.MaxItems-1].Path+", mkdir /e", drop(full.Items[api.MaxItems-1].Path), put(dir("/e")))
}

// P12.2, P12.3: which error goes ahead of which.
func TestErrors(t *testing.T) {
	long, longBad, longStuck := make([]api.Redo, api.MaxRedos+1), make([]api.Redo, api.MaxRedos+1), make([]api.Redo, api.MaxRedos+1)
	for n := range long {
		long[n], longStuck[n] = drop("/zz"), put(dir("/no/such"))
	}
	stuck, no := put(dir("/no/such")), drop("/")
	for _, now := range badTrees() {
		refused(t, now, api.ErrTree, good()...)
		refused(t, now, api.ErrTree, stuck, no, api.Redo{})
		fails(t, now, api.ErrTree)
		fails(t, now, api.ErrTree, no, stuck)
		fails(t, now, api.ErrTree, long...)
		fails(t, now, api.ErrTree, longBad...)
	}
	for _, now := range []api.Tree{{}, some(), crowd(api.MaxItems)} {
		refused(t, now, api.ErrRedo, bad()...)
		fails(t, now, api.ErrLong, long...)
		fails(t, now, api.ErrLong, longBad...)
		fails(t, now, api.ErrLong, longStuck...)
		fails(t, now, api.ErrRedo, longBad[1:]...)
		fails(t, now, api.ErrStuck, longStuck[1:]...)
		for _, r := range bad() {
			fails(t, now, api.ErrRedo, r, stuck)
			fails(t, now, api.ErrRedo, stuck, r)
			fails(t, now, api.ErrRedo, drop("/zz"), stuck, drop("/zz"), r)
		}
		fails(t, now, api.ErrStuck, stuck, drop("/zz"))
		fails(t, now, api.ErrStuck, drop("/zz"), stuck)
		fails(t, now, api.ErrRedo, append(slices.Clone(long[2:]), no)...)
		fails(t, now, api.ErrStuck, append(slices.Clone(long[2:]), stuck)...)
	}
}

// applies applies redos, and tells what is otherwise than that tree, and these operations.
func applies(t *testing.T, now, want api.Tree, wantOps string, l ...api.Redo) {
	t.Helper()
	after, all, e := redo.Apply(now, l)
	if e != api.OK || !tree.Same(after, want) || !slices.Equal(all, ops(wantOps)) {
		wrong(t, "Apply(%v, %v): %v %v %v, not %v %v", now, l, after, all, e, want, wantOps)
	}
}

// P12.3: several redos, each at the tree that the one ahead has left.
func TestApply(t *testing.T) {
	applies(t, some(), some(), "")
	applies(t, api.Tree{}, api.Tree{}, "")
	applies(t, api.Tree{}, of(dir("/a"), dir("/a/b"), file("/a/b/c", "1")), "mkdir /a, mkdir /a/b, write /a/b/c 1", put(dir("/a")), put(dir("/a/b")), put(file("/a/b/c", "1")))
	fails(t, api.Tree{}, api.ErrStuck, put(dir("/a/b")), put(dir("/a")))
	applies(t, api.Tree{}, api.Tree{}, "mkdir /a, write /a/f, unlink /a/f, rmdir /a", put(dir("/a")), put(file("/a/f", "")), drop("/a"), drop("/a"))
	applies(t, api.Tree{}, of(file("/a", "2")), "write /a 1, write /a 2", put(file("/a", "1")), put(file("/a", "1")), put(file("/a", "2")))
	applies(t, api.Tree{}, of(dir("/b"), dir("/b/c")), "mkdir /a, move /a /b, mkdir /b/c", put(dir("/a")), move("/a", "/b"), put(dir("/b/c")), move("/a", "/b"))
	fails(t, api.Tree{}, api.ErrStuck, put(dir("/a")), move("/a", "/b"), put(dir("/a/c")))
	applies(t, of(file("/a", "1"), file("/b", "2")), of(file("/a", "2"), file("/b", "1")), "move /a /c, move /b /a, move /c /b", move("/a", "/c"), move("/b", "/a"), move("/c", "/b"))
	applies(t, of(file("/a", "1"), file("/b", "2")), of(file("/b", "1")), "unlink /b, move /a /b", move("/a", "/b"), move("/a", "/b"))
	applies(t, some(), of(file("/a", "4")), "unlink /a/l, unlink /a/f, rmdir /a, move /x /a, unlink /a-/g, rmdir /a-, unlink /c/d.e, unlink /c/d/e/f, rmdir /c/d/e, rmdir /c/d, rmdir /c, rmdir /e, unlink /l", move("/x", "/a"), drop("/a-"), drop("/c"), drop("/e"), drop("/l"), drop("/x"))
}

// P12.3: just MaxRedos redos.
func TestApplyMany(t *testing.T) {
	var l []api.Redo
	var want []string
	for n := range api.MaxRedos {
		if n%2 == 0 {
			l, want = append(l, put(dir("/a"))), append(want, "mkdir /a")
		} else {
			l, want = append(l, drop("/a")), append(want, "rmdir /a")
		}
	}
	applies(t, api.Tree{}, api.Tree{}, strings.Join(want, ", "), l...)
	applies(t, api.Tree{}, of(dir("/a")), strings.Join(want[:api.MaxRedos-1], ", "), l[:api.MaxRedos-1]...)
	fails(t, api.Tree{}, api.ErrLong, append(l, drop("/a"))...)
}

// lies asks what lies between a and b, and tells what is otherwise than these redos.
func lies(t *testing.T, a, b api.Tree, want ...api.Redo) {
	t.Helper()
	l, e := redo.Between(a, b)
	if e != api.OK || !slices.Equal(l, want) {
		wrong(t, "Between(%v, %v): %v %v, not %v", a, b, l, e, want)
	}
	if after, _, e := redo.Apply(a, l); e != api.OK || !tree.Same(after, b) {
		wrong(t, "Between(%v, %v): %v: comes to %v %v", a, b, l, after, e)
	}
}

// P12.4: Between.
func TestBetween(t *testing.T) {
	for _, now := range []api.Tree{{}, some(), crowd(api.MaxItems)} {
		lies(t, now, now)
	}
	var all []api.Redo
	for _, item := range some().Items {
		all = append(all, put(item))
	}
	lies(t, api.Tree{}, some(), all...)
	lies(t, some(), api.Tree{}, drop("/a"), drop("/a-"), drop("/c"), drop("/e"), drop("/l"), drop("/x"))
	// Data alone.
	lies(t, of(file("/a", "1"), link("/b", "1")), of(file("/a", "2"), link("/b", "2")), put(file("/a", "2")), put(link("/b", "2")))
	lies(t, of(file("/a", "")), of(file("/a", "2")), put(file("/a", "2")))
	lies(t, of(dir("/a"), file("/a/b", "1"), file("/a/c", "1")), of(dir("/a"), file("/a/b", "2"), file("/a/c", "1")), put(file("/a/b", "2")))
	// Another Kind.
	lies(t, of(file("/a", "1")), of(link("/a", "1")), drop("/a"), put(link("/a", "1")))
	lies(t, of(link("/a", "1")), of(file("/a", "1")), drop("/a"), put(file("/a", "1")))
	lies(t, of(file("/a", "")), of(dir("/a")), drop("/a"), put(dir("/a")))
	lies(t, of(dir("/a")), of(file("/a", "")), drop("/a"), put(file("/a", "")))
	lies(t, of(link("/a", "1")), of(dir("/a"), file("/a/b", "1")), drop("/a"), put(dir("/a")), put(file("/a/b", "1")))
	lies(t, of(dir("/a"), file("/a/b", "1")), of(link("/a", "1")), drop("/a"), put(link("/a", "1")))
	// What is beneath such a path is not dropped for itself; what stands beside it is.
	lies(t, of(dir("/a"), dir("/a/b"), file("/a/b/c", "1"), dir("/a-"), file("/a-/b", "1"), file("/a0", "")), of(link("/a", "a0"), dir("/a-"), link("/a-/b", "1")), drop("/a"), drop("/a-/b"), drop("/a0"), put(link("/a", "a0")), put(link("/a-/b", "1")))
	lies(t, of(dir("/a"), dir("/a/b"), dir("/a/b/c"), dir("/a/b-"), dir("/a/c")), of(dir("/a"), file("/a/b", ""), dir("/a/c"), dir("/a/c/d")), drop("/a/b"), drop("/a/b-"), put(file("/a/b", "")), put(dir("/a/c/d")))
	// The same items beneath and beside a path at which another Kind stands, as far as a tree may have them.
	lies(t, of(dir("/a"), dir("/a/b"), file("/a/b/f", "1"), file("/a/f", "1")), of(dir("/a"), link("/a/b", "f"), file("/a/f", "1")), drop("/a/b"), put(link("/a/b", "f")))
	lies(t, of(dir("/a"), file("/a/b", "1"), file("/a/f", "1")), of(dir("/a"), dir("/a/b"), file("/a/b/f", "1"), file("/a/f", "1")), drop("/a/b"), put(dir("/a/b")), put(file("/a/b/f", "1")))
}

// P12.4: trees that may not be, and full ones.
func TestBetweenErrors(t *testing.T) {
	for _, now := range badTrees() {
		for _, other := range append(badTrees(), api.Tree{}, some(), now) {
			for _, both := range [][2]api.Tree{{now, other}, {other, now}} {
				if l, e := redo.Between(both[0], both[1]); len(l) != 0 || e != api.ErrTree {
					wrong(t, "Between(%v, %v): %v %v", both[0], both[1], l, e)
				}
			}
		}
	}
}

// P12.4, P12.6: two full trees of which no item stands in both.
func TestBetweenFull(t *testing.T) {
	var a, b []api.Item
	var want []api.Redo
	for n := range api.MaxItems {
		a = append(a, file("/a"+strconv.Itoa(10000+n), ""))
		b = append(b, dir("/b"+strconv.Itoa(10000+n)))
	}
	for _, item := range a {
		want = append(want, drop(item.Path))
	}
	for _, item := range b {
		want = append(want, put(item))
	}
	lies(t, of(a...), of(b...), want...)
}

// encodes asks for the row of redos, and back, and tells what is otherwise.
func encodes(t *testing.T, want string, l ...api.Redo) {
	t.Helper()
	if s, e := redo.Encode(l); s != want || e != api.OK {
		wrong(t, "Encode(%v): %v %v, not %v", l, s, e, want)
	}
	decodes(t, want, l...)
}

// decodes reads a row, and tells what is otherwise than these redos.
func decodes(t *testing.T, s string, want ...api.Redo) {
	t.Helper()
	if l, e := redo.Decode(s); !slices.Equal(l, want) || e != api.OK {
		wrong(t, "Decode(%v): %v %v, not %v", s, l, e, want)
	}
}

// noRow reads what is no row of redos.
func noRow(t *testing.T, l ...string) {
	t.Helper()
	for _, s := range l {
		if got, e := redo.Decode(s); len(got) != 0 || e != api.ErrRedo {
			wrong(t, "Decode(%v): %v %v", s, got, e)
		}
	}
}

// P12.5: Encode, and Decode of it.
func TestEncode(t *testing.T) {
	encodes(t, "")
	encodes(t, "1;2:/a1;0:", put(dir("/a")))
	encodes(t, "1;4:/a/f2;2:12", put(file("/a/f", "12")))
	encodes(t, "1;2:/a2;0:", put(file("/a", "")))
	encodes(t, "1;2:/a2;5:2;0:\xff", put(file("/a", "2;0:\xff")))
	encodes(t, "1;2:/a3;1:x", put(link("/a", "x")))
	encodes(t, "2;4:/a/b", drop("/a/b"))
	encodes(t, "3;2:/a4:/b/c", move("/a", "/b/c"))
	encodes(t, "2;2:/a2;2:/a", drop("/a"), drop("/a"))
	encodes(t, "3;2:/a2:/b2;2:/a1;2:/a1;0:1;2:/b2;10:1234567890", move("/a", "/b"), drop("/a"), put(dir("/a")), put(file("/b", "1234567890")))
	encodes(t, "1;2:/a2;"+strconv.Itoa(api.MaxFile)+":"+bytes(api.MaxFile), put(file("/a", bytes(api.MaxFile))))
	for _, r := range good() {
		encodes(t, tell(r), r)
		encodes(t, tell(r)+"2;2:/a"+tell(r), r, drop("/a"), r)
	}
	encodes(t, tell(good()...), good()...)
}

// tell is the row of redos, without the packages that are tried.
func tell(l ...api.Redo) string {
	s := ""
	number := func(n int) { s += strconv.Itoa(n) + ";" }
	text := func(x string) { s += strconv.Itoa(len(x)) + ":" + x }
	for _, r := range l {
		number(r.Kind)
		text(r.Item.Path)
		if r.Kind == 1 {
			number(r.Item.Kind)
			text(r.Item.Data)
		}
		if r.Kind == 3 {
			text(r.To)
		}
	}
	return s
}

// P12.5: redos that may not be, and too many of them.
func TestEncodeErrors(t *testing.T) {
	fails := func(want api.Errno, l ...api.Redo) {
		t.Helper()
		if s, e := redo.Encode(l); s != "" || e != want {
			wrong(t, "Encode(%v): %v %v, not %v", l, s, e, want)
		}
	}
	many := slices.Repeat(row(put(link("/a", "x"))), api.MaxRedos)
	for _, r := range bad() {
		fails(api.ErrRedo, r)
		fails(api.ErrRedo, drop("/a"), r)
		fails(api.ErrRedo, r, drop("/a"))
		fails(api.ErrRedo, append(many[1:], r)...)
		fails(api.ErrLong, append(many[:api.MaxRedos:api.MaxRedos], r)...)
	}
	s, e := redo.Encode(many)
	if s != strings.Repeat("1;2:/a3;1:x", api.MaxRedos) || e != api.OK {
		wrong(t, "Encode of MaxRedos: %v %v", s, e)
	}
	decodes(t, s, many...)
	fails(api.ErrLong, append(many, drop("/a"))...)
	fails(api.ErrLong, make([]api.Redo, api.MaxRedos+1)...)
	fails(api.ErrRedo, make([]api.Redo, api.MaxRedos)...)
	noRow(t, s+"2;2:/a", s+s, s+"x", s+"1;", s[1:], s[:len(s)-1])
}

// P12.5: a row that is cut anywhere, or has something in addition.
func TestDecodeCut(t *testing.T) {
	l := row(put(dir("/a")), put(file("/a/f", "2;2:/a")), drop("/a"), move("/a", "/b"), put(link("/l", "1;")), drop("/c"))
	s := tell(l...)
	ends := map[int]int{}
	for n := range len(l) + 1 {
		ends[len(tell(l[:n]...))] = n
	}
	for n := range len(s) + 1 {
		if many, is := ends[n]; is {
			decodes(t, s[:n], l[:many]...)
			decodes(t, s[n:], l[many:]...)
			for _, more := range []string{"0;", "4;", "1:2", "0:", "2:/a", "1;1;", "1;", "2;", "3;", "x", ";", ":", "\n", " ", "02;2:/a"} {
				noRow(t, s[:n]+more, s[:n]+more+s[n:])
			}
		} else {
			noRow(t, s[:n])
			noRow(t, s[:n]+"\x00"+s[n:])
		}
	}
}

// P12.5: texts that are no row of redos that may be.
func TestDecodeErrors(t *testing.T) {
	noRow(t, "x", " ", ";", ":", "1", "1;", "1:", "0;", "2;2:/", "2;2:/a ", " 2;2:/a", "2;2:/a\n", "2:2:/a", "2;2;", "2;/a", "2;1:2:/a", "2 2:/a", "2;2 /a")
	// A Kind that is none.
	noRow(t, "0;2:/a", "4;2:/a", "5;2:/a", "0;2:/a1;0:", "4;2:/a2:/b", "1:22:/a", "0:2:/a", "18446744073709551615;2:/a", "18446744073709551616;2:/a", "18446744073709551618;2:/a", "4294967298;2:/a", "4294967297;2:/a1;0:", "4294967299;2:/a2:/b", "-1;2:/a", "258;2:/a")
	// An item's Kind that is none.
	noRow(t, "1;2:/a0;0:", "1;2:/a4;0:", "1;2:/a4;1:x", "1;2:/a18446744073709551615;1:x", "1;2:/a4294967298;1:x", "1;2:/a4294967297;0:", "1;2:/a1:20:", "1;2:/a0;", "1;2:/a0:0:", "1;2:/a-1;0:")
	// Numbers that are not written as numbers are.
	noRow(t, "02;2:/a", "2;02:/a", "+2;2:/a", "2.0;2:/a", "2;+2:/a", "2;0x2:/a", "2 ;2:/a", "2; 2:/a", "1;2:/a01;0:", "1;2:/a1;00:", "1;2:/a02;1:x", "3;2:/a02:/b", "\xb2;2:/a", "٢;2:/a")
	// A part too many, or too few.
	noRow(t, "2;2:/a0:", "2;2:/a0;", "2;2:/a2:/b", "2;2:/a1;0:", "2;2:/a0;0:0:", "2;2:/a0;0:", "1;2:/a", "1;2:/a1;", "1;2:/a2;", "1;2:/a1;0:0:", "1;2:/a2;1:xx", "3;2:/a", "3;2:/a2:/b2:/c", "3;2:/a0;0:2:/b", "3;2:/a2:/b0:", "1;2:/a2;1:x0:", "2;")
	// Lengths that are not right.
	noRow(t, "2;1:/a", "2;3:/a", "2;3:/a2;2:/a", "1;2:/a2;3:12", "1;2:/a2;1:12", "2;18446744073709551615:/a", "3;2:/a3:/b", "3;2:/a1:/b")
	for _, r := range bad() {
		s := tell(r)
		// What a row does not tell may be right.
		if r.Kind == api.ReDrop && r.Item != (api.Item{Path: r.Item.Path}) || r.Kind == api.ReMove && r.Item != (api.Item{Path: r.Item.Path}) || r.Kind != api.ReMove && r.To != "" {
			continue
		}
		noRow(t, s, "2;2:/a"+s, s+"2;2:/a")
	}
}
