package tree_test

import (
	"slices"
	"testing"

	"puncheon/api"
	"puncheon/tree"
)

func mkdir(p string) api.Op {
	return api.Op{Kind: api.OpMkdir, Path: p}
}

func write(p, data string) api.Op {
	return api.Op{Kind: api.OpWrite, Path: p, Data: data}
}

func extend(p, data string) api.Op {
	return api.Op{Kind: api.OpAppend, Path: p, Data: data}
}

func symlink(p, text string) api.Op {
	return api.Op{Kind: api.OpLink, Path: p, Data: text}
}

func move(p, to string) api.Op {
	return api.Op{Kind: api.OpMove, Path: p, To: to}
}

func unlink(p string) api.Op {
	return api.Op{Kind: api.OpUnlink, Path: p}
}

func rmdir(p string) api.Op {
	return api.Op{Kind: api.OpRmdir, Path: p}
}

// each answers one operation of each kind at p.
func each(p string) []api.Op {
	return []api.Op{mkdir(p), write(p, "w"), extend(p, "e"), symlink(p, "l"), move(p, "/new"), unlink(p), rmdir(p)}
}

// noKinds are no kinds of operations.
var noKinds = []int{0, -1, -7, 8, 9, 256 + 1, 1 << 32, 1<<32 + 1, 1<<63 - 1, -1 << 63}

// P6.3: operations that may be.
func TestCheckOp(t *testing.T) {
	for _, p := range []string{"/", "/a", "/a/b.c", "/...", deep(api.MaxDepth)} {
		for _, op := range append(each(p),
			write(p, ""), write(p, bytes(api.MaxFile)), extend(p, ""), extend(p, bytes(api.MaxFile)), symlink(p, "\x00"), symlink(p, bytes(api.MaxLong)),
			move(p, "/"), move(p, p), move(p, "/a"), move(p, deep(api.MaxDepth)), move("/", p)) {
			if e := tree.CheckOp(op); e != api.OK {
				t.Errorf("CheckOp(%.100v): %d", op, e)
			}
		}
	}
}

// argOps are operations whose first error is ErrArg, whatever else is wrong.
func argOps() []api.Op {
	var l []api.Op
	for _, kind := range noKinds {
		l = append(l, api.Op{Kind: kind}, api.Op{Kind: kind, Path: "/a"}, api.Op{Kind: kind, Path: "a"}, api.Op{Kind: kind, Path: "/a", To: "/b", Data: bytes(api.MaxFile + 1)})
	}
	for _, p := range []string{"/a", "/", "a", ""} {
		for _, op := range each(p) {
			if op.Kind != api.OpMove {
				op.To = "/b"
				l = append(l, op)
				op.To = "b"
				l = append(l, op)
			}
		}
		for _, op := range []api.Op{mkdir(p), move(p, "/b"), move(p, "b"), move(p, ""), unlink(p), rmdir(p)} {
			op.Data = "x"
			l = append(l, op)
			op.Data = bytes(api.MaxFile + 1)
			l = append(l, op)
		}
		l = append(l, symlink(p, ""))
		for _, op := range []api.Op{write(p, bytes(api.MaxFile+1)), extend(p, bytes(api.MaxFile+1)), symlink(p, bytes(api.MaxLong+1)), symlink(p, "")} {
			op.To = p + "/"
			l = append(l, op)
		}
	}
	return l
}

// pathOps are operations whose first error is ErrPath.
func pathOps() []api.Op {
	var l []api.Op
	for _, p := range badPaths() {
		l = append(l, each(p)...)
		l = append(l, move("/", p), move("/a", p), move(p, p), move(p, "/"), write(p, ""), write(p, bytes(api.MaxFile+1)), extend(p, bytes(api.MaxFile+1)), symlink(p, bytes(api.MaxLong+1)))
	}
	return l
}

// longOps are operations whose first error is ErrLong.
func longOps() []api.Op {
	var l []api.Op
	for _, p := range []string{"/", "/a", "/no/b"} {
		l = append(l, write(p, bytes(api.MaxFile+1)), extend(p, bytes(api.MaxFile+1)), symlink(p, bytes(api.MaxLong+1)), symlink(p, bytes(api.MaxFile+1)))
	}
	return l
}

// P6.3, P6.4: operations that may not be, and which of several errors goes first; that goes ahead of what the tree says.
func TestCheckOpBad(t *testing.T) {
	for _, c := range []struct {
		ops  []api.Op
		want api.Errno
	}{{argOps(), api.ErrArg}, {pathOps(), api.ErrPath}, {longOps(), api.ErrLong}} {
		for _, op := range c.ops {
			if e := tree.CheckOp(op); e != c.want {
				t.Errorf("CheckOp(%.100v): %d, not %d", op, e, c.want)
			}
			for _, now := range []api.Tree{{}, of(dir("/a")), of(file("/a", "1")), of(link("/a", "1"))} {
				if after, e := tree.Do(now, op); e != c.want || len(after.Items) != 0 {
					t.Errorf("Do(%v, %.100v): %v %d, not %d", now, op, after, e, c.want)
				}
			}
		}
	}
}

// P6.4: a tree that may not be goes ahead of all else.
func TestDoBadTree(t *testing.T) {
	for _, now := range bad() {
		for _, op := range slices.Concat(each("/a"), each("/q"), []api.Op{{}, {Kind: 9}, mkdir(""), write("/a", bytes(api.MaxFile+1)), symlink("/a", "")}) {
			if after, e := tree.Do(now, op); e != api.ErrTree || len(after.Items) != 0 {
				t.Errorf("Do(%.200v, %.50v): %.200v %d", now, op, after, e)
			}
		}
	}
}

// some is the tree at which most operations here are done.
func some() api.Tree {
	return of(dir("/a"), file("/a/f", "12"), link("/a/l", "f"), dir("/a.b"), dir("/c"), dir("/c/d"), dir("/c/d/e"), file("/c/d/e/f", ""), file("/c/d.e", "3"), link("/l", "/a"), file("/x", "4"))
}

// with is some, the items in the places of those of their paths, or new.
func with(l ...api.Item) api.Tree {
	return change(some(), nil, l)
}

// without is some without these paths.
func without(l ...string) api.Tree {
	return change(some(), l, nil)
}

// change answers a tree without these paths, and with these items, made without the package that is tried.
func change(now api.Tree, gone []string, more []api.Item) api.Tree {
	l := slices.DeleteFunc(slices.Clone(now.Items), func(old api.Item) bool {
		return slices.Contains(gone, old.Path) || slices.ContainsFunc(more, func(item api.Item) bool { return item.Path == old.Path })
	})
	return of(sorted(append(l, more...))...)
}

// check does an operation, and tells what is otherwise than it has to be; with an error the tree wanted is left out.
func check(t *testing.T, now api.Tree, op api.Op, want api.Tree, wantE api.Errno) {
	t.Helper()
	after, e := tree.Do(now, op)
	if e != wantE || !slices.Equal(after.Items, want.Items) {
		t.Errorf("Do(%.100v): %.300v %d, not %.300v %d", op, after, e, want, wantE)
	}
	if e == api.OK && tree.Check(after) != api.OK {
		t.Errorf("Do(%.100v): no tree: %.300v", op, after)
	}
}

// refuse does operations that have all one error.
func refuse(t *testing.T, now api.Tree, want api.Errno, l ...api.Op) {
	t.Helper()
	for _, op := range l {
		check(t, now, op, api.Tree{}, want)
	}
}

// P6.4: OpMkdir, OpLink.
func TestMkdirLink(t *testing.T) {
	for _, p := range []string{"/b", "/a/b", "/a/f.", "/a.b/c", "/c/d/e/g", "/0", "/zz"} {
		check(t, some(), mkdir(p), with(dir(p)), api.OK)
		check(t, some(), symlink(p, "t"), with(link(p, "t")), api.OK)
	}
	check(t, api.Tree{}, mkdir("/a"), of(dir("/a")), api.OK)
	check(t, api.Tree{}, symlink("/a", bytes(api.MaxLong)), of(link("/a", bytes(api.MaxLong))), api.OK)
	check(t, of(deepDirs(api.MaxDepth-1)...), mkdir(deep(api.MaxDepth)), of(deepDirs(api.MaxDepth)...), api.OK)
	for _, made := range []func(p string) api.Op{mkdir, func(p string) api.Op { return symlink(p, "t") }} {
		refuse(t, some(), api.ErrNone, made("/b/c"), made("/a/b/c"), made("/b/c/d/e"), made("/a/f/x/y"), made("/a/l/x/y"), made("/a./b"))
		refuse(t, some(), api.ErrKind, made("/a/f/x"), made("/a/l/x"), made("/l/f"), made("/x/f"), made("/c/d.e/f"))
		refuse(t, some(), api.ErrThere, made("/"), made("/a"), made("/a/f"), made("/a/l"), made("/c/d/e"), made("/x"))
		refuse(t, api.Tree{}, api.ErrThere, made("/"))
		refuse(t, api.Tree{}, api.ErrNone, made("/a/b"), made(deep(api.MaxDepth)))
	}
}

// P6.4: OpWrite.
func TestWrite(t *testing.T) {
	for _, data := range []string{"", "5", "67\x00", bytes(api.MaxFile)} {
		for _, p := range []string{"/b", "/a/b", "/a.b/c", "/c/d/e/g", "/0", "/a/f", "/c/d/e/f", "/c/d.e", "/x"} {
			check(t, some(), write(p, data), with(file(p, data)), api.OK)
		}
		check(t, api.Tree{}, write("/a", data), of(file("/a", data)), api.OK)
		check(t, of(file("/a", bytes(api.MaxFile))), write("/a", data), of(file("/a", data)), api.OK)
	}
	refuse(t, some(), api.ErrNone, write("/b/c", ""), write("/a/b/c", ""), write("/a/f/x/y", "1"))
	refuse(t, some(), api.ErrKind, write("/a/f/x", ""), write("/a/l/x", "1"), write("/l/f", "1"), write("/x/f", ""))
	refuse(t, some(), api.ErrKind, write("/", ""), write("/a", ""), write("/c/d", "1"), write("/a.b", ""), write("/l", ""), write("/a/l", "f"))
	refuse(t, api.Tree{}, api.ErrKind, write("/", "1"))
}

// P6.4: OpAppend.
func TestAppend(t *testing.T) {
	check(t, some(), extend("/a/f", "34"), with(file("/a/f", "1234")), api.OK)
	check(t, some(), extend("/a/f", ""), some(), api.OK)
	check(t, some(), extend("/c/d/e/f", "1"), with(file("/c/d/e/f", "1")), api.OK)
	check(t, some(), extend("/x", "\x00"), with(file("/x", "4\x00")), api.OK)
	refuse(t, some(), api.ErrNone, extend("/b", "1"), extend("/b/c", ""), extend("/a/b", ""), extend("/a/f/x", "1"), extend("/l/f", "1"), extend("/a/l/x/y", ""))
	refuse(t, some(), api.ErrKind, extend("/", ""), extend("/a", "1"), extend("/a/l", "1"), extend("/l", ""), extend("/a.b", bytes(api.MaxFile)))
	refuse(t, api.Tree{}, api.ErrKind, extend("/", "1"))
	refuse(t, api.Tree{}, api.ErrNone, extend("/a", "1"))
}

// P6.4: how long a file may become.
func TestAppendLong(t *testing.T) {
	for _, has := range []int{0, 1, 2, api.MaxFile - 1, api.MaxFile} {
		now := of(file("/a", bytes(has)))
		for _, more := range []int{0, 1, 2, api.MaxFile - has - 1, api.MaxFile - has, api.MaxFile - has + 1, api.MaxFile} {
			switch {
			case more < 0 || more > api.MaxFile:
			case has+more > api.MaxFile:
				refuse(t, now, api.ErrLong, extend("/a", bytes(more)))
			default:
				check(t, now, extend("/a", bytes(more)), of(file("/a", bytes(has+more))), api.OK)
			}
		}
	}
}

// P6.4: OpMove of a file, a link, an empty directory, and one with more beneath.
func TestMove(t *testing.T) {
	for _, to := range []string{"/b", "/a/b", "/a.b/c", "/c/d/g", "/0", "/zz", "/a0"} {
		check(t, some(), move("/x", to), change(some(), []string{"/x"}, []api.Item{file(to, "4")}), api.OK)
		check(t, some(), move("/l", to), change(some(), []string{"/l"}, []api.Item{link(to, "/a")}), api.OK)
		check(t, some(), move("/a/f", to), change(some(), []string{"/a/f"}, []api.Item{file(to, "12")}), api.OK)
		check(t, some(), move("/c/d/e", to), change(some(), []string{"/c/d/e", "/c/d/e/f"}, []api.Item{dir(to), file(to+"/f", "")}), api.OK)
	}
	for _, to := range []string{"/b", "/a/b", "/c/d/g", "/0", "/zz", "/a.c"} {
		check(t, some(), move("/a.b", to), change(some(), []string{"/a.b"}, []api.Item{dir(to)}), api.OK)
	}
	for _, to := range []string{"/b", "/a/b", "/a.b/c", "/0", "/zz", "/c.", "/c-"} {
		want := change(some(), []string{"/c", "/c/d", "/c/d/e", "/c/d/e/f", "/c/d.e"}, []api.Item{dir(to), dir(to + "/d"), dir(to + "/d/e"), file(to+"/d/e/f", ""), file(to+"/d.e", "3")})
		check(t, some(), move("/c", to), want, api.OK)
	}
	check(t, some(), move("/c/d", "/d"), change(some(), []string{"/c/d", "/c/d/e", "/c/d/e/f"}, []api.Item{dir("/d"), dir("/d/e"), file("/d/e/f", "")}), api.OK)
	check(t, of(dir("/a"), dir("/a/a"), dir("/a/a/a"), dir("/b")), move("/a/a", "/b/a"), of(dir("/a"), dir("/b"), dir("/b/a"), dir("/b/a/a")), api.OK)
	check(t, of(dir("/a"), dir("/a/a"), file("/a/a/a", "1")), move("/a/a/a", "/a/b"), of(dir("/a"), dir("/a/a"), file("/a/b", "1")), api.OK)
	check(t, of(besides()...), move("/a", "/c"), change(of(besides()[7:]...), nil, []api.Item{dir("/c"), file("/c/b", "1"), dir("/c/c"), link("/c/c/+", "x"), file("/c/c/d", ""), file("/c/c+", ""), file("/c/c0", "")}), api.OK)
}

// P6.4: OpMove that has an error, and which of several goes first.
func TestMoveBad(t *testing.T) {
	refuse(t, some(), api.ErrNone, move("/b", "/d"), move("/b", "/b"), move("/b", "/b/c"), move("/b", "/"), move("/b", "/a"), move("/b", "/x/y"), move("/b", "/no/x"), move("/a/f/x", "/d"), move("/a/l/x", "/d"), move("/a.", "/d"))
	refuse(t, some(), api.ErrArg, move("/", "/"), move("/", "/b"), move("/", "/a"), move("/", "/no/x"), move("/", "/x/y"))
	refuse(t, some(), api.ErrArg, move("/a", "/a"), move("/a", "/a/b"), move("/a", "/a/f"), move("/a", "/a/f/x"), move("/a", "/a/no/x"), move("/c", "/c/d/e/f"), move("/c", "/c/d"), move("/a.b", "/a.b/c"))
	refuse(t, some(), api.ErrArg, move("/x", "/x"), move("/x", "/x/y"), move("/x", "/x/y/z"), move("/l", "/l"), move("/l", "/l/f"), move("/a/l", "/a/l/x"))
	refuse(t, some(), api.ErrNone, move("/a", "/b/c"), move("/x", "/a/b/c"), move("/c/d", "/c/no/d"), move("/l", "/a/f/x/y"))
	refuse(t, some(), api.ErrKind, move("/a", "/x/a"), move("/a", "/l/a"), move("/x", "/a/f/x"), move("/x", "/a/l/x"), move("/c/d", "/c/d.e/f"))
	refuse(t, some(), api.ErrThere, move("/a", "/"), move("/a/f", "/"), move("/a/f", "/a"), move("/a/f", "/a/l"), move("/a/f", "/x"), move("/x", "/a/f"), move("/x", "/l"), move("/l", "/a.b"), move("/a", "/c"), move("/a", "/a.b"), move("/c/d/e", "/c"), move("/c/d/e", "/c/d"))
	refuse(t, api.Tree{}, api.ErrNone, move("/a", "/"), move("/a", "/b"))
	refuse(t, api.Tree{}, api.ErrArg, move("/", "/"), move("/", "/b"))
}

// P6.4: how deep what is moved may come to stand.
func TestMoveDeep(t *testing.T) {
	// /a has n directories, one in the other, of which the last one has a file; it is moved into /x/x/..
	for n := 1; n < 6; n++ {
		body := []api.Item{dir("/a")}
		for range n {
			body = append(body, dir(body[len(body)-1].Path+"/y"))
		}
		body = append(body, file(body[n].Path+"/f", "1"), link("/a/z", "y"))
		for depth := api.MaxDepth - n - 4; depth < api.MaxDepth; depth++ {
			now := of(append(slices.Clone(body), deepDirs(depth)...)...)
			to := deep(depth) + "/a"
			if depth+n+2 > api.MaxDepth {
				refuse(t, now, api.ErrPath, move("/a", to))
				continue
			}
			want := deepDirs(depth)
			for _, item := range body {
				item.Path = deep(depth) + item.Path
				want = append(want, item)
			}
			check(t, now, move("/a", to), of(want...), api.OK)
		}
	}
	now := of(append([]api.Item{dir("/a"), file("/b", "1")}, deepDirs(api.MaxDepth-1)...)...)
	check(t, now, move("/b", deep(api.MaxDepth)), of(append(append([]api.Item{dir("/a")}, deepDirs(api.MaxDepth-1)...), file(deep(api.MaxDepth), "1"))...), api.OK)
	check(t, now, move("/a", deep(api.MaxDepth)), of(append([]api.Item{file("/b", "1")}, deepDirs(api.MaxDepth)...)...), api.OK)
}

// P6.4: OpUnlink, OpRmdir.
func TestUnlinkRmdir(t *testing.T) {
	for _, p := range []string{"/a/f", "/a/l", "/c/d/e/f", "/c/d.e", "/l", "/x"} {
		check(t, some(), unlink(p), without(p), api.OK)
		refuse(t, some(), api.ErrKind, rmdir(p))
	}
	check(t, some(), rmdir("/a.b"), without("/a.b"), api.OK)
	check(t, without("/c/d/e/f"), rmdir("/c/d/e"), without("/c/d/e/f", "/c/d/e"), api.OK)
	check(t, of(dir("/a"), dir("/a.b"), dir("/a.b/c")), rmdir("/a"), of(dir("/a.b"), dir("/a.b/c")), api.OK)
	check(t, of(dir("/a")), rmdir("/a"), api.Tree{}, api.OK)
	check(t, of(file("/a", "1")), unlink("/a"), api.Tree{}, api.OK)
	refuse(t, some(), api.ErrKind, unlink("/"), unlink("/a"), unlink("/a.b"), unlink("/c/d/e"))
	refuse(t, some(), api.ErrNone, unlink("/b"), unlink("/a/b"), unlink("/b/c"), unlink("/a/f/x"), unlink("/l/f"), rmdir("/b"), rmdir("/a/b"), rmdir("/b/c"), rmdir("/a/f/x"), rmdir("/l/f"), rmdir("/a."))
	refuse(t, some(), api.ErrBusy, rmdir("/"), rmdir("/a"), rmdir("/c"), rmdir("/c/d"), rmdir("/c/d/e"))
	refuse(t, api.Tree{}, api.ErrBusy, rmdir("/"))
	refuse(t, api.Tree{}, api.ErrKind, unlink("/"))
}

// P6.4: a full tree, and one that is not quite full.
func TestDoFull(t *testing.T) {
	full := many(api.MaxItems)
	name := full.Items[7].Path
	refuse(t, full, api.ErrFull, mkdir("/e"), mkdir("/d/e"), symlink("/e", "1"), symlink("/d/e", "1"), write("/e", ""), write("/d/e", "1"))
	refuse(t, full, api.ErrNone, mkdir("/e/e"), symlink("/e/e", "1"), write("/e/e", ""), extend("/e", "1"), move("/e", "/f"), unlink("/e"), rmdir("/e"))
	refuse(t, full, api.ErrKind, mkdir(name+"/e"), symlink(name+"/e", "1"), write(name+"/e", ""), write("/d", "1"), write("/", ""), extend("/d", ""), unlink("/d"), rmdir(name))
	refuse(t, full, api.ErrThere, mkdir("/d"), mkdir("/"), mkdir(name), symlink("/d", "1"), symlink("/", "1"), symlink(name, "1"), move(name, "/d"))
	refuse(t, full, api.ErrBusy, rmdir("/d"), rmdir("/"))
	check(t, full, write(name, "new"), change(full, nil, []api.Item{file(name, "new")}), api.OK)
	check(t, full, extend(name, "new"), change(full, nil, []api.Item{file(name, full.Items[7].Data+"new")}), api.OK)
	check(t, full, unlink(name), change(full, []string{name}, nil), api.OK)
	check(t, full, move(name, "/e"), change(full, []string{name}, []api.Item{file("/e", full.Items[7].Data)}), api.OK)
	moved := many(api.MaxItems).Items
	for n := range moved {
		moved[n].Path = "/e" + moved[n].Path[len("/d"):]
	}
	check(t, full, move("/d", "/e"), of(moved...), api.OK)
	less := many(api.MaxItems - 1)
	check(t, less, mkdir("/e"), change(less, nil, []api.Item{dir("/e")}), api.OK)
	check(t, less, symlink("/e", "1"), change(less, nil, []api.Item{link("/e", "1")}), api.OK)
	check(t, less, write("/e", "1"), change(less, nil, []api.Item{file("/e", "1")}), api.OK)
	room := change(less, nil, []api.Item{dir("/e")})
	check(t, room, rmdir("/e"), less, api.OK)
}

// run runs operations, and tells what is otherwise than it has to be.
func run(t *testing.T, now api.Tree, l []api.Op, want api.Tree, wantMany int, wantE api.Errno) {
	t.Helper()
	after, many, e := tree.Run(now, l)
	if e != wantE || many != wantMany || !slices.Equal(after.Items, want.Items) {
		t.Errorf("Run(%.200v): %.300v %d %d, not %.300v %d %d", l, after, many, e, want, wantMany, wantE)
	}
}

// P6.5: Run.
func TestRun(t *testing.T) {
	fine := []api.Op{mkdir("/b"), write("/b/f", "1"), extend("/b/f", "2"), symlink("/b/l", "f"), move("/b", "/e"), unlink("/e/l"), mkdir("/e/g"), rmdir("/e/g")}
	behind := []api.Tree{
		some(), with(dir("/b")), with(dir("/b"), file("/b/f", "1")), with(dir("/b"), file("/b/f", "12")), with(dir("/b"), file("/b/f", "12"), link("/b/l", "f")),
		with(dir("/e"), file("/e/f", "12"), link("/e/l", "f")), with(dir("/e"), file("/e/f", "12")), with(dir("/e"), file("/e/f", "12"), dir("/e/g")), with(dir("/e"), file("/e/f", "12")),
	}
	faults := map[api.Errno]api.Op{
		api.ErrArg: {Kind: 8, Path: "/b"}, api.ErrPath: mkdir("b"), api.ErrLong: write("/b", bytes(api.MaxFile+1)), api.ErrNone: unlink("/no"),
		api.ErrThere: mkdir("/a"), api.ErrKind: unlink("/a"), api.ErrBusy: rmdir("/a"),
	}
	for n := range behind {
		run(t, some(), fine[:n], behind[n], n, api.OK)
		for e, op := range faults {
			run(t, some(), slices.Concat(fine[:n], []api.Op{op}, fine[n:]), behind[n], n, e)
			run(t, some(), slices.Concat(fine[:n], []api.Op{op, op}), behind[n], n, e)
		}
	}
	run(t, some(), nil, some(), 0, api.OK)
	run(t, some(), []api.Op{}, some(), 0, api.OK)
	run(t, api.Tree{}, nil, api.Tree{}, 0, api.OK)
	run(t, api.Tree{}, []api.Op{mkdir("/b/c")}, api.Tree{}, 0, api.ErrNone)
	run(t, api.Tree{}, []api.Op{mkdir("/a"), rmdir("/a")}, api.Tree{}, 2, api.OK)
}

// P6.5: Run, of a tree that may not be, and of one that becomes full, or has a file that becomes too long.
func TestRunBad(t *testing.T) {
	for _, now := range bad() {
		for _, l := range [][]api.Op{nil, {}, {mkdir("/q")}, {unlink("/a")}, {{}}, {mkdir("/q"), mkdir("/q")}} {
			run(t, now, l, api.Tree{}, 0, api.ErrTree)
		}
	}
	less := many(api.MaxItems - 2)
	run(t, less, []api.Op{mkdir("/e"), mkdir("/f"), mkdir("/g"), mkdir("/h")}, change(less, nil, []api.Item{dir("/e"), dir("/f")}), 2, api.ErrFull)
	run(t, less, []api.Op{mkdir("/e"), mkdir("/f"), rmdir("/e"), mkdir("/g"), mkdir("/h")}, change(less, nil, []api.Item{dir("/f"), dir("/g")}), 4, api.ErrFull)
	half := bytes(api.MaxFile / 2)
	run(t, api.Tree{}, []api.Op{write("/a", half), extend("/a", half), extend("/a", ""), extend("/a", "1")}, of(file("/a", half+half)), 3, api.ErrLong)
}
