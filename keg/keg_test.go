package keg_test

import (
	"slices"
	"strings"
	"testing"

	"puncheon/api"
	"puncheon/keg"
)

// P15.1: what may be, and what may not; any digest will do.
func TestCheck(t *testing.T) {
	for _, k := range good() {
		for _, k.Digest = range digests() {
			if e := keg.Check(k); e != api.OK {
				t.Errorf("Check(%.300s): %d", tell(k), e)
			}
		}
	}
	for _, k := range bad() {
		for _, k.Digest = range digests() {
			if e := keg.Check(k); e != api.ErrKeg {
				t.Errorf("Check(%.300s): %d", tell(k), e)
			}
		}
	}
}

// P15.1: parts may be by themselves, and not together: just a need of one's own name is so.
func TestCheckOwnName(t *testing.T) {
	for _, l := range goodNeeds() {
		for _, n := range l {
			k := api.Keg{Ref: ref(n.Name, "1"), Needs: l, Leaves: leaves("/a")}
			if e := keg.Check(k); e != api.ErrKeg {
				t.Errorf("Check(%.300s): %d", tell(k), e)
			}
			k.Ref.Name = "q"
			if e := keg.Check(k); e != api.OK {
				t.Errorf("Check(%.300s): %d", tell(k), e)
			}
		}
	}
}

// different are kegs of which each two differ, in just one part, for the most: some may not be.
func different() []api.Keg {
	base := api.Keg{Ref: ref("a", "1.2"), Digest: api.Digest{7}, Needs: []api.Need{need("b", ">=1")}, Leaves: leaves("/bin/", "/bin/a=\x07")}
	l := []api.Keg{base, {}}
	for _, r := range []api.Ref{ref("b", "1.2"), ref("a", "1.2.0"), ref("a", "1.3"), ref("a", "1.2-rc"), ref("a", "1.2-rc1"), {Name: "a"}, {Version: v("1.2")}, {Name: "a", Version: api.Version{Many: 9}}} {
		k := base
		k.Ref = r
		l = append(l, k)
	}
	for _, d := range []api.Digest{{}, {8}, {0: 7, 31: 1}, {1: 7}, {31: 7}} {
		k := base
		k.Digest = d
		l = append(l, k)
	}
	for _, n := range [][]api.Need{nil, needs("b"), needs("c"), {need("c", ">=1")}, {need("b", ">=1.0")}, {need("b", ">1")}, {need("b", ">=1||>=1")}, {need("b", ">=1,>=1")}, {need("b", ">=1"), need("b", ">=1")}, {need("b", ">=1"), need("c", ">=1")}, {need("c", ">=1"), need("b", ">=1")}, {{Name: "b"}}, {{}}} {
		k := base
		k.Needs = n
		l = append(l, k)
	}
	for _, n := range [][]api.Leaf{nil, leaves("/bin/"), leaves("/bin/a=\x07"), leaves("/bin/", "/bin/b=\x07"), leaves("/bim/", "/bin/a=\x07"), leaves("/bin/", "/bin/a=\x08"), leaves("/bin/", "/bin/a"), leaves("/bin/", "/bin/a=\x07\x00"), {{Path: "/bin", Dir: true}, {Path: "/bin/a", Dir: true, Data: "\x07"}}, leaves("/bin", "/bin/a=\x07"), leaves("/bin/a=\x07", "/bin/"), leaves("/bin/", "/bin/a=\x07", "/c"), {{}}, {{}, {}}} {
		k := base
		k.Leaves = n
		l = append(l, k)
	}
	return append(l, api.Keg{Ref: greatestRef(), Needs: fullNeeds(), Leaves: fullLeaves()})
}

// P15.1: Same tells whatever differs in one part alone apart, and nothing else.
func TestSame(t *testing.T) {
	all := different()
	for n, a := range all {
		for m, b := range all {
			if got := keg.Same(a, deepCopy(b)); got != (n == m) {
				t.Errorf("Same(%.200s, %.200s): %v", tell(a), tell(b), got)
			}
		}
	}
	for _, k := range append(good(), bad()...) {
		other := deepCopy(k)
		if !keg.Same(k, other) || !keg.Same(other, k) {
			t.Errorf("Same(%.300s): false", tell(k))
		}
		other.Digest[9] ^= 1
		if keg.Same(k, other) || keg.Same(other, k) {
			t.Errorf("Same(%.300s) of another digest: true", tell(k))
		}
	}
}

// P15.1: nil lists and empty ones are one.
func TestSameNil(t *testing.T) {
	without := api.Keg{Ref: ref("a", "1")}
	for _, empty := range []api.Keg{{Ref: without.Ref, Needs: []api.Need{}}, {Ref: without.Ref, Leaves: []api.Leaf{}}, {Ref: without.Ref, Needs: make([]api.Need, 0, 4), Leaves: make([]api.Leaf, 0, 4)}} {
		if !keg.Same(without, empty) || !keg.Same(empty, without) || keg.Check(empty) != api.OK {
			t.Errorf("Same(%v): false", empty)
		}
	}
	a, b := needs("b"), needs("b")
	a[0].Span.Rows[0], b[0].Span.Rows[0] = nil, []api.Bound{}
	if !keg.Same(api.Keg{Needs: a}, api.Keg{Needs: b}) {
		t.Error("Same of a nil row, and an empty one: false")
	}
}

// P15.1: the keg of a pack, and a digest.
func TestOf(t *testing.T) {
	for _, want := range good() {
		for _, want.Digest = range digests() {
			if k, e := keg.Of(packOf(want), want.Digest); e != api.OK || tell(k) != tell(want) || !keg.Same(k, want) || keg.Check(k) != api.OK {
				t.Errorf("Of(%.300s): %.300s %d", tell(want), tell(k), e)
			}
		}
	}
	for _, k := range bad() {
		for _, d := range digests() {
			if got, e := keg.Of(packOf(k), d); e != api.ErrPack || tell(got) != tell(api.Keg{}) {
				t.Errorf("Of(%.300s): %.300s %d", tell(k), tell(got), e)
			}
		}
	}
}

// P15.2: roots.
func TestRoot(t *testing.T) {
	for want, r := range map[string]api.Ref{
		"/cellar/a/1": ref("a", "1"), "/cellar/a/1.2": ref("a", "1.2"), "/cellar/a/1.0": ref("a", "1.0"), "/cellar/a/0": ref("a", "0"), "/cellar/a/1.2-rc1": ref("a", "1.2-rc1"), "/cellar/a/1-b": ref("a", "1-b"), "/cellar/.../0.0.0.0-z999": ref("...", "0.0.0.0-z999"),
		"/cellar/cellar/1": ref("cellar", "1"), "/cellar/1/1": ref("1", "1"), "/cellar/+/10": ref("+", "10"), "/cellar/stage/2.3.4.5": ref("stage", "2.3.4.5"),
		"/cellar/" + long(32) + "/9999.9999.9999.9999-zzzzzz999": greatestRef(),
	} {
		if got, e := keg.Root(r); got != want || e != api.OK {
			t.Errorf("Root(%v): %q %d, not %q", r, got, e, want)
		}
	}
	for _, r := range badRefs() {
		if got, e := keg.Root(r); got != "" || e != api.ErrPack {
			t.Errorf("Root(%v): %q %d", r, got, e)
		}
	}
}

// itemsAre asks for a keg's items, and tells what is otherwise.
func itemsAre(t *testing.T, k api.Keg, want ...string) {
	t.Helper()
	if got, e := keg.Items(k); !slices.Equal(got, said(want...)) || e != api.OK {
		t.Errorf("Items(%.300s): %v %d", tell(k), got, e)
	}
}

// P15.2: a keg's items.
func TestItems(t *testing.T) {
	itemsAre(t, small(), "/cellar/a/1.2/", "/cellar/a/1.2/bin/", "/cellar/a/1.2/bin/a=\x07")
	itemsAre(t, api.Keg{Ref: ref("a", "1.2-rc1")}, "/cellar/a/1.2-rc1/")
	itemsAre(t, api.Keg{Ref: ref("a", "1"), Digest: api.Digest{1}, Needs: needs("b", "c")}, "/cellar/a/1/")
	itemsAre(t, api.Keg{Ref: ref("b", "2"), Leaves: leaves("/a/", "/a/b", "/a-b=>x", "/c/", "/d="+long(200))}, "/cellar/b/2/", "/cellar/b/2/a/", "/cellar/b/2/a/b", "/cellar/b/2/a-b=>x", "/cellar/b/2/c/", "/cellar/b/2/d="+long(200))
	itemsAre(t, api.Keg{Ref: ref("b", "2"), Leaves: leaves("/cellar/", "/cellar/b/", "/cellar/b/2/")}, "/cellar/b/2/", "/cellar/b/2/cellar/", "/cellar/b/2/cellar/b/", "/cellar/b/2/cellar/b/2/")
	var paths []string
	k := api.Keg{Ref: greatestRef(), Leaves: deepest()}
	l, e := keg.Items(k)
	for _, item := range l {
		paths = append(paths, item.Path)
	}
	root := "/cellar/" + long(32) + "/9999.9999.9999.9999-zzzzzz999"
	if len(l) != api.MaxLeaves+1 || paths[0] != root || paths[16] != root+strings.Repeat("/a", 15)+"/"+long(29) || l[16].Kind != api.KFile || e != api.OK {
		t.Errorf("Items of what is deepest: %v %d", paths, e)
	}
	for _, k := range bad() {
		if l, e := keg.Items(k); len(l) != 0 || e != api.ErrKeg {
			t.Errorf("Items(%.300s): %v %d", tell(k), l, e)
		}
	}
}

// mkdir is the step by which a directory is made.
func mkdir(p string) api.Step {
	return api.Step{Op: api.Op{Kind: api.OpMkdir, Path: p}}
}

// write is the step by which a file is written.
func write(p, data string) api.Step {
	return api.Step{Op: api.Op{Kind: api.OpWrite, Path: p, Data: data}}
}

// staged asks for the steps by which a keg is staged, behind the two that all have and ahead of the Sync, and for its move.
func staged(t *testing.T, k api.Keg, to string, want ...api.Step) {
	t.Helper()
	want = append([]api.Step{mkdir("/stage"), mkdir("/stage/keg")}, append(want, api.Step{Sync: true})...)
	move := api.Redo{Kind: api.ReMove, Item: api.Item{Path: "/stage/keg"}, To: to}
	if steps, m, e := keg.Stage(k); !slices.Equal(steps, want) || m != move || e != api.OK {
		t.Errorf("Stage(%.300s): %v %v %d", tell(k), steps, m, e)
	}
}

// P15.2: the steps of staging, and the move.
func TestStage(t *testing.T) {
	staged(t, small(), "/cellar/a/1.2", mkdir("/stage/keg/bin"), write("/stage/keg/bin/a", "\x07"))
	staged(t, api.Keg{Ref: ref("a", "1.2-rc1")}, "/cellar/a/1.2-rc1")
	staged(t, api.Keg{Ref: ref("a", "1"), Digest: api.Digest{1}, Needs: needs("b", "c")}, "/cellar/a/1")
	staged(t, api.Keg{Ref: ref("b", "2"), Leaves: leaves("/a/", "/a/b", "/a-b=x", "/keg/", "/keg/keg="+long(200))}, "/cellar/b/2", mkdir("/stage/keg/a"), write("/stage/keg/a/b", ""), write("/stage/keg/a-b", "x"), mkdir("/stage/keg/keg"), write("/stage/keg/keg/keg", long(200)))
	var all []api.Step
	for n := range 15 {
		all = append(all, mkdir("/stage/keg"+strings.Repeat("/a", n+1)))
	}
	all = append(all, write("/stage/keg"+strings.Repeat("/a", 15)+"/"+long(29), ""))
	staged(t, api.Keg{Ref: greatestRef(), Needs: fullNeeds(), Leaves: deepest()}, "/cellar/"+long(32)+"/9999.9999.9999.9999-zzzzzz999", all...)
	for _, k := range bad() {
		if steps, m, e := keg.Stage(k); len(steps) != 0 || m != (api.Redo{}) || e != api.ErrKeg {
			t.Errorf("Stage(%.300s): %v %v %d", tell(k), steps, m, e)
		}
	}
}

// has asks for the leaves of a ref in a tree, and tells what is otherwise.
func has(t *testing.T, now api.Tree, r api.Ref, want ...string) {
	t.Helper()
	if got, e := keg.Leaves(now, r); !slices.Equal(got, leaves(want...)) || e != api.OK {
		t.Errorf("Leaves(%v, %v): %v %d", now, r, got, e)
	}
}

// hasNot asks for the leaves of a ref in a tree, and tells what is otherwise than that error.
func hasNot(t *testing.T, now api.Tree, r api.Ref, want api.Errno) {
	t.Helper()
	if got, e := keg.Leaves(now, r); len(got) != 0 || e != want {
		t.Errorf("Leaves(%.300v, %v): %v %d, not %d", now, r, got, e, want)
	}
}

// beneath is a tree in which these items, by their paths behind it, stand beneath the root of a 1.
func beneath(l ...string) api.Tree {
	items := said("/cellar/", "/cellar/a/", "/cellar/a/1/")
	for _, item := range said(l...) {
		item.Path = "/cellar/a/1" + item.Path
		items = append(items, item)
	}
	return treeOf(items...)
}

// P15.3: the leaves of a ref in a tree.
func TestLeaves(t *testing.T) {
	a := ref("a", "1")
	has(t, beneath(), a)
	has(t, beneath("/b"), a, "/b")
	has(t, beneath("/b/"), a, "/b/")
	has(t, beneath("/bin/", "/bin/a=\x07"), a, "/bin/", "/bin/a=\x07")
	has(t, beneath("/a/", "/a/b=1", "/a-b=2", "/c/", "/c/d/", "/c/d/e="), a, "/a/", "/a/b=1", "/a-b=2", "/c/", "/c/d/", "/c/d/e=")
	has(t, beneath("/f="+long(200)), a, "/f="+long(200))
	has(t, beneath("/cellar/", "/cellar/a/", "/cellar/a/1/", "/cellar/a/1/f=x"), a, "/cellar/", "/cellar/a/", "/cellar/a/1/", "/cellar/a/1/f=x")
	// Whatever stands ahead of the root, behind it, or beside it is none of its leaves.
	beside := treeOf(said("/a>x", "/bin=1", "/cellar/", "/cellar/a/", "/cellar/a/0/", "/cellar/a/0/f=0", "/cellar/a/1/", "/cellar/a/1/f=1", "/cellar/a/1-/", "/cellar/a/1-/f=2", "/cellar/a/1.0/", "/cellar/a/1.0/f=3", "/cellar/a/10/", "/cellar/a/10/f=4", "/cellar/a/x>y", "/cellar/aa/", "/cellar/aa/1/", "/cellar/aa/1/f=5", "/stage/", "/stage/keg/", "/stage/keg/f=6", "/z>x")...)
	has(t, beside, a, "/f=1")
	has(t, beside, ref("a", "0"), "/f=0")
	has(t, beside, ref("a", "1.0"), "/f=3")
	has(t, beside, ref("a", "10"), "/f=4")
	has(t, beside, ref("aa", "1"), "/f=5")
	for _, r := range []api.Ref{ref("a", "1-a"), ref("a", "2"), ref("a", "1.0.0"), ref("aa", "0"), ref("b", "1"), ref("cellar", "1")} {
		hasNot(t, beside, r, api.ErrNone)
	}
}

// P15.3: nothing where the root should be, or something that is no directory.
func TestLeavesNone(t *testing.T) {
	a := ref("a", "1")
	for _, l := range [][]string{nil, {"/cellar=x"}, {"/cellar>x"}, {"/cellar/"}, {"/cellar/", "/cellar/a=x"}, {"/cellar/", "/cellar/a>x"}, {"/cellar/", "/cellar/a/"}, {"/cellar/", "/cellar/a/", "/cellar/a/1"}, {"/cellar/", "/cellar/a/", "/cellar/a/1=x"}, {"/cellar/", "/cellar/a/", "/cellar/a/1>x"}, {"/cellar/", "/cellar/a/", "/cellar/a/1>2", "/cellar/a/2/"}, {"/a/", "/a/1/"}, {"/stage/", "/stage/keg/"}, {"/cellar/", "/cellar/b/", "/cellar/b/1/"}} {
		hasNot(t, treeOf(said(l...)...), a, api.ErrNone)
	}
}

// P15.3: what stands beneath the root may be no keg's: links, and what may be no pack's leaves.
func TestLeavesKeg(t *testing.T) {
	a := ref("a", "1")
	many := []string{"/a/"}
	for _, name := range numbered(16, 2) {
		many = append(many, "/a/"+name)
	}
	has(t, beneath(many[:16]...), a, many[:16]...)
	for _, l := range [][]string{
		{"/l>x"}, {"/a", "/l>/cellar"}, {"/l>x", "/z"}, {"/a/", "/a/b/", "/a/b/c/", "/a/b/c/l>f"}, {"/a/", "/a/l>x", "/b", "/c"},
		{"/f=" + long(201)}, {"/a", "/f=" + long(201), "/z"}, {"/d/", "/d/f=" + long(1<<19)}, {"/" + long(30) + "/", "/" + long(30) + "/" + long(29)}, many, {"/a/", "/a/b/", "/a/b/" + long(32), "/l>x"},
	} {
		hasNot(t, beneath(l...), a, api.ErrKeg)
	}
	has(t, beneath("/"+long(30)+"/", "/"+long(30)+"/"+long(28)), a, "/"+long(30)+"/", "/"+long(30)+"/"+long(28))
	hasNot(t, treeOf(append(beneath("/f=x").Items, said("/x/", "/cellar/a/1/l>y")...)...), a, api.ErrKeg)
	// What is no keg's beneath another root is nothing to this one.
	has(t, treeOf(append(beneath("/f=x").Items, said("/cellar/a/1.0/", "/cellar/a/1.0/l>y", "/cellar/a/10/", "/cellar/a/10/f="+long(201))...)...), a, "/f=x")
}

// P15.3: the errors of Leaves, in their order.
func TestLeavesErrors(t *testing.T) {
	for _, now := range badTrees() {
		for _, r := range append(badRefs(), ref("a", "1"), ref("a", "1.2"), ref("z", "1")) {
			hasNot(t, now, r, api.ErrTree)
		}
	}
	for _, r := range badRefs() {
		for _, now := range []api.Tree{{}, beneath(), beneath("/f=x"), beneath("/l>x")} {
			hasNot(t, now, r, api.ErrPack)
		}
	}
}

// verify asks whether a tree has a keg, and tells what is otherwise.
func verify(t *testing.T, now api.Tree, k api.Keg, want api.Errno) {
	t.Helper()
	if e := keg.Verify(now, k); e != want {
		t.Errorf("Verify(%.300v, %.300s): %d, not %d", now, tell(k), e, want)
	}
}

// P15.3: a tree has a keg if just its items stand there, whatever stands elsewhere.
func TestVerify(t *testing.T) {
	one := func(l ...string) api.Keg { return api.Keg{Ref: ref("a", "1"), Leaves: leaves(l...)} }
	verify(t, beneath(), one(), api.OK)
	verify(t, beneath("/f"), one(), api.ErrKeg)
	verify(t, beneath(), one("/f"), api.ErrKeg)
	verify(t, beneath("/l>x"), one(), api.ErrKeg)
	k := one("/bin/", "/bin/a=\x07", "/bin/c", "/lib/", "/z=x")
	k.Digest, k.Needs = api.Digest{9}, needs("b")
	verify(t, beneath("/bin/", "/bin/a=\x07", "/bin/c", "/lib/", "/z=x"), k, api.OK)
	for _, l := range [][]string{
		// One less.
		{"/bin/", "/bin/a=\x07", "/bin/c", "/lib/"}, {"/bin/", "/bin/a=\x07", "/bin/c", "/z=x"}, {"/bin/", "/bin/c", "/lib/", "/z=x"}, {"/lib/", "/z=x"}, {},
		// One more: ahead of all, between, beneath, and behind all.
		{"/a", "/bin/", "/bin/a=\x07", "/bin/c", "/lib/", "/z=x"}, {"/bin/", "/bin/a=\x07", "/bin/b", "/bin/c", "/lib/", "/z=x"}, {"/bin/", "/bin/a=\x07", "/bin/c", "/lib/", "/lib/x/", "/z=x"}, {"/bin/", "/bin/a=\x07", "/bin/c", "/lib/", "/z=x", "/zz/"}, {"/bin/", "/bin/a=\x07", "/bin/c", "/lib/", "/l>x", "/z=x"},
		// One that is another.
		{"/bin/", "/bin/a=\x08", "/bin/c", "/lib/", "/z=x"}, {"/bin/", "/bin/a=", "/bin/c", "/lib/", "/z=x"}, {"/bin/", "/bin/a=\x07", "/bin/c/", "/lib/", "/z=x"}, {"/bin/", "/bin/a=\x07", "/bin/c", "/lib", "/z=x"}, {"/bin/", "/bin/a=\x07", "/bin/c", "/lib/", "/z>x"}, {"/bin/", "/bin/a=\x07", "/bin/c", "/lib>x", "/z=x"}, {"/bin/", "/bin/a=\x07", "/bin/d", "/lib/", "/z=x"}, {"/bin/", "/bin/a=\x07\x00", "/bin/c", "/lib/", "/z=x"}, {"/bin>x", "/lib/", "/z=x"}, {"/bin/", "/bin/a>\x07", "/bin/c", "/lib/", "/z=x"},
	} {
		verify(t, beneath(l...), k, api.ErrKeg)
	}
	// Ahead of the root, behind it, and beside it there may be anything.
	for _, l := range []string{"/a", "/bin/", "/cellar/a/0", "/cellar/a/0.9/", "/cellar/a/1-/", "/cellar/a/1.0>x", "/cellar/a/10/", "/cellar/aa=x", "/journal", "/stage/", "/z>x"} {
		verify(t, treeOf(append(beneath("/bin/", "/bin/a=\x07", "/bin/c", "/lib/", "/z=x").Items, said(l)...)...), k, api.OK)
	}
}

// P15.3: the errors of Verify, in their order.
func TestVerifyErrors(t *testing.T) {
	for _, now := range badTrees() {
		verify(t, now, small(), api.ErrTree)
		for _, k := range bad() {
			verify(t, now, k, api.ErrTree)
		}
	}
	for _, now := range []api.Tree{{}, beneath(), treeOf(said("/cellar/", "/cellar/a/", "/cellar/a/1.2/")...)} {
		for _, k := range bad() {
			verify(t, now, k, api.ErrKeg)
		}
	}
	for _, l := range [][]string{nil, {"/cellar=x"}, {"/cellar/"}, {"/cellar/", "/cellar/a>1"}, {"/cellar/", "/cellar/a/"}, {"/cellar/", "/cellar/a/", "/cellar/a/1.2"}, {"/cellar/", "/cellar/a/", "/cellar/a/1.2>x"}, {"/cellar/", "/cellar/a/", "/cellar/a/1.20/"}, {"/stage/", "/stage/keg/", "/stage/keg/bin/", "/stage/keg/bin/a=\x07"}} {
		verify(t, treeOf(said(l...)...), small(), api.ErrNone)
		verify(t, treeOf(said(l...)...), api.Keg{Ref: ref("a", "1.2")}, api.ErrNone)
	}
}

// refsAre asks for the refs of a tree, said as names and versions, and tells what is otherwise.
func refsAre(t *testing.T, now api.Tree, want ...string) {
	t.Helper()
	var refs []api.Ref
	for _, s := range want {
		name, text, _ := strings.Cut(s, " ")
		refs = append(refs, ref(name, text))
	}
	if got := keg.Refs(now); !slices.Equal(got, refs) {
		t.Errorf("Refs(%.300v): %v", now, got)
	}
}

// P15.4: the refs of a tree.
func TestRefs(t *testing.T) {
	refsAre(t, api.Tree{})
	refsAre(t, treeOf(said("/cellar=x")...))
	refsAre(t, treeOf(said("/cellar>x")...))
	refsAre(t, treeOf(said("/cellar/")...))
	refsAre(t, treeOf(said("/cellar/", "/cellar/a/", "/cellar/1/")...))
	refsAre(t, treeOf(said("/cellar/", "/cellar/a=1", "/cellar/b>1")...))
	refsAre(t, beneath(), "a 1")
	refsAre(t, beneath("/f", "/l>x", "/2/", "/2/3/", "/a/", "/a/1/"), "a 1")
	refsAre(t, treeOf(said("/cellar/", "/cellar/a/", "/cellar/a/1=x", "/cellar/a/2>1", "/cellar/a/3/", "/cellar/a/x/", "/cellar/a/x/4/")...), "a 3")
	refsAre(t, treeOf(said("/a/", "/a/1/", "/cell/", "/cell/a/", "/cell/a/1/", "/cellar/", "/cellar/a/", "/cellar0/", "/cellar0/a/", "/cellar0/a/1/", "/d/", "/d/cellar/", "/d/cellar/a/", "/d/cellar/a/1/", "/stage/", "/stage/1/", "/1/", "/1/1/", "/cellar/1/")...))
	// Rising by names, byte by byte, then by versions: that is not the order of paths.
	refsAre(t, treeOf(said("/cellar/", "/cellar/a/", "/cellar/a/1/", "/cellar/a/1-a/", "/cellar/a/1-rc1/", "/cellar/a/1-rc10/", "/cellar/a/1-rc2/", "/cellar/a/1.0/", "/cellar/a/1.10/", "/cellar/a/1.2/", "/cellar/a/10/", "/cellar/a/2/", "/cellar/a-b/", "/cellar/a-b/0/", "/cellar/a.b/", "/cellar/a.b/9/", "/cellar/aa/", "/cellar/aa/0/", "/cellar/b/", "/cellar/b/0.0/")...), "a 1-a", "a 1-rc1", "a 1-rc2", "a 1-rc10", "a 1", "a 1.0", "a 1.2", "a 1.10", "a 2", "a 10", "a-b 0", "a.b 9", "aa 0", "b 0.0")
	refsAre(t, treeOf(said("/cellar/", "/cellar/.../", "/cellar/.../1/", "/cellar/1/", "/cellar/1/2.3/", "/cellar/"+long(32)+"/", "/cellar/"+long(32)+"/9999.9999.9999.9999-zzzzzz999/")...), "... 1", "1 2.3", long(32)+" 9999.9999.9999.9999-zzzzzz999")
	// None of these is a version's text, though some are nearly.
	none := said("/cellar/", "/cellar/a/")
	for _, text := range []string{"x", "01", "1.02", "1.", ".1", "1..2", "1.2.3.4.5", "1-", "1-0", "1-rc0", "1-rc01", "1-rc1000", "1-abcdefg", "1-rc-1", "-1", "+1", "1+1", "1_", "10000", "1.10000", "00", "1-rc1.2", "v1", "1rc", "1.x", "..."} {
		none = append(none, api.Item{Path: "/cellar/a/" + text, Kind: api.KDir})
	}
	refsAre(t, treeOf(none...))
	refsAre(t, treeOf(append(none, said("/cellar/a/1/")...)...), "a 1")
	for _, now := range badTrees() {
		refsAre(t, now)
	}
}

// The chapter's examples, row by row.
func TestExamples(t *testing.T) {
	k := small()
	if p, e := keg.Root(ref("a", "1.2-rc1")); p != "/cellar/a/1.2-rc1" || e != api.OK {
		t.Errorf("Root: %s %d", p, e)
	}
	itemsAre(t, k, "/cellar/a/1.2/", "/cellar/a/1.2/bin/", "/cellar/a/1.2/bin/a=\x07")
	steps := []api.Step{mkdir("/stage"), mkdir("/stage/keg"), mkdir("/stage/keg/bin"), write("/stage/keg/bin/a", "\x07"), {Sync: true}}
	if l, m, e := keg.Stage(k); !slices.Equal(l, steps) || m != (api.Redo{Kind: api.ReMove, Item: api.Item{Path: "/stage/keg"}, To: "/cellar/a/1.2"}) || e != api.OK {
		t.Errorf("Stage: %v %v %d", l, m, e)
	}
	hasNot(t, api.Tree{}, k.Ref, api.ErrNone)
	verify(t, treeOf(said("/cellar/", "/cellar/a/", "/cellar/a/1.2/", "/cellar/a/1.2/bin/", "/cellar/a/1.2/bin/a=\x08")...), k, api.ErrKeg)
	verify(t, treeOf(said("/cellar/", "/cellar/a/", "/cellar/a/1.2/", "/cellar/a/1.2/bin/", "/cellar/a/1.2/bin/a=\x07")...), k, api.OK)
	refsAre(t, treeOf(said("/cellar/", "/cellar/a/", "/cellar/a/1.2/", "/cellar/a/x/", "/cellar/b/", "/cellar/b/1/")...), "a 1.2", "b 1")
}

// deepCopy is the same keg in other memory, list by list.
func deepCopy(k api.Keg) api.Keg {
	k.Needs, k.Leaves = slices.Clone(k.Needs), slices.Clone(k.Leaves)
	for n := range k.Needs {
		rows := slices.Clone(k.Needs[n].Span.Rows)
		for m := range rows {
			rows[m] = slices.Clone(rows[m])
		}
		k.Needs[n].Span.Rows = rows
	}
	return k
}
