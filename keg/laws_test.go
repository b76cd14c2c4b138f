package keg_test

import (
	"fmt"
	"math"
	"regexp"
	"slices"
	"strings"
	"testing"

	"puncheon/api"
	"puncheon/disk"
	"puncheon/journal"
	"puncheon/keg"
	"puncheon/pack"
	"puncheon/redo"
	"puncheon/tree"
	"puncheon/version"
)

// textForm is what versions' texts look like.
var textForm = regexp.MustCompile(`^(0|[1-9][0-9]{0,3})(\.(0|[1-9][0-9]{0,3})){0,3}(-[a-z]{1,6}([1-9][0-9]{0,2})?)?$`)

// plainRoot is the root of a ref, without the package that is tried.
func plainRoot(r api.Ref) string {
	var l []string
	for n := range r.Version.Many {
		l = append(l, fmt.Sprint(r.Version.Numbers[n]))
	}
	text := strings.Join(l, ".")
	if r.Version.Tag != "" {
		text += "-" + r.Version.Tag
	}
	if r.Version.Step != 0 {
		text += fmt.Sprint(r.Version.Step)
	}
	return fmt.Sprintf("/cellar/%s/%s", r.Name, text)
}

// plainItems are leaves as items at a path, without the package that is tried.
func plainItems(at string, l []api.Leaf) []api.Item {
	items := []api.Item{{Path: at, Kind: api.KDir}}
	for _, leaf := range l {
		kind := api.KFile
		if leaf.Dir {
			kind = api.KDir
		}
		items = append(items, api.Item{Path: at + leaf.Path, Kind: kind, Data: leaf.Data})
	}
	return items
}

// at are the items of a tree at a path, and beneath it.
func at(now api.Tree, p string) []api.Item {
	var l []api.Item
	for _, item := range now.Items {
		if item.Path == p || strings.HasPrefix(item.Path, p+"/") {
			l = append(l, item)
		}
	}
	return l
}

// plainLeaves answers the leaves of a ref in a tree, without the package that is tried.
func plainLeaves(now api.Tree, r api.Ref) ([]api.Leaf, api.Errno) {
	if tree.Check(now) != api.OK {
		return nil, api.ErrTree
	}
	if pack.CheckRef(r) != api.OK {
		return nil, api.ErrPack
	}
	root := plainRoot(r)
	items := at(now, root)
	if len(items) == 0 || items[0].Kind != api.KDir {
		return nil, api.ErrNone
	}
	var l []api.Leaf
	for _, item := range items[1:] {
		if item.Kind == api.KLink {
			return nil, api.ErrKeg
		}
		l = append(l, api.Leaf{Path: item.Path[len(root):], Dir: item.Kind == api.KDir, Data: item.Data})
	}
	if pack.CheckLeaves(l) != api.OK {
		return nil, api.ErrKeg
	}
	return l, api.OK
}

// plainVerify answers by which error a tree has not a keg, without the package that is tried: its items are held against those of the tree.
func plainVerify(now api.Tree, k api.Keg) api.Errno {
	if tree.Check(now) != api.OK {
		return api.ErrTree
	}
	if pack.Check(packOf(k)) != api.OK {
		return api.ErrKeg
	}
	root := plainRoot(k.Ref)
	items := at(now, root)
	if len(items) == 0 || items[0].Kind != api.KDir {
		return api.ErrNone
	}
	if !slices.Equal(items, plainItems(root, k.Leaves)) {
		return api.ErrKeg
	}
	return api.OK
}

// plainRefs answers the refs of a tree, without the package that is tried.
func plainRefs(now api.Tree) []api.Ref {
	var l []api.Ref
	if tree.Check(now) != api.OK {
		return nil
	}
	for _, item := range now.Items {
		parts := strings.Split(item.Path, "/")
		if len(parts) == 4 && parts[1] == "cellar" && item.Kind == api.KDir && textForm.MatchString(parts[3]) {
			l = append(l, ref(parts[2], parts[3]))
		}
	}
	slices.SortFunc(l, pack.Compare)
	return l
}

// holds holds all that is asked of a tree, and of some refs and kegs, against the second reading; it counts the errors of Leaves and Verify.
func holds(t *testing.T, now api.Tree, kegs []api.Keg, count map[string]int) {
	t.Helper()
	if got, want := keg.Refs(now), plainRefs(now); !slices.Equal(got, want) {
		t.Fatalf("Refs(%v): %v, not %v", now, got, want)
	}
	for _, k := range kegs {
		want, wantE := plainLeaves(now, k.Ref)
		if got, e := keg.Leaves(now, k.Ref); !slices.Equal(got, want) || e != wantE {
			t.Fatalf("Leaves(%v, %v): %v %d, not %v %d", now, k.Ref, got, e, want, wantE)
		}
		count[fmt.Sprint("Leaves ", wantE)]++
		wantE = plainVerify(now, k)
		if e := keg.Verify(now, k); e != wantE {
			t.Fatalf("Verify(%v, %s): %d, not %d", now, tell(k), e, wantE)
		}
		count[fmt.Sprint("Verify ", wantE)]++
	}
}

// often tells of which answers there were too few.
func often(t *testing.T, count map[string]int, least int, what ...string) {
	t.Helper()
	for _, w := range what {
		if count[w] < least {
			t.Errorf("%s: just %d", w, count[w])
		}
	}
}

// P15.3, P15.4: all trees of what lies close to a root, where at each place nothing, a directory, a file, or a link stands; some may not be.
func TestLawClose(t *testing.T) {
	places := []string{"/cellar", "/cellar/a", "/cellar/a/1", "/cellar/a/1/b", "/cellar/a/1/b/c", "/cellar/a/1.0", "/cellar/a/1.0/b"}
	kegs := []api.Keg{{Ref: ref("a", "1")}, {Ref: ref("a", "1"), Leaves: leaves("/b/")}, {Ref: ref("a", "1"), Leaves: leaves("/b/", "/b/c=x")}, {Ref: ref("a", "1.0"), Leaves: leaves("/b=x")}, {Ref: ref("a", "1"), Leaves: leaves("/b/c=x")}, {}}
	count := map[string]int{}
	for n := range 1 << (2 * len(places)) {
		var now api.Tree
		for m, p := range places {
			switch n >> (2 * m) & 3 {
			case 1:
				now.Items = append(now.Items, said(p+"/")...)
			case 2:
				now.Items = append(now.Items, said(p+"=x")...)
			case 3:
				now.Items = append(now.Items, said(p+">x")...)
			}
		}
		holds(t, now, kegs, count)
	}
	often(t, count, 5, "Leaves 0", "Leaves 4", "Leaves 160", "Leaves 190", "Leaves 250", "Verify 0", "Verify 4", "Verify 160", "Verify 250")
}

// numbers answers a function that tells numbers below its argument, each time the same ones.
func numbers() func(below int) int {
	x := uint64(1)
	return func(below int) int {
		x = x*6364136223846793005 + 1442695040888963407
		return int((x >> 33) % uint64(below))
	}
}

// grown are trees that may be, of all sorts of what may stand at /cellar, and beside it.
func grown(many int) []api.Tree {
	next := numbers()
	names := []string{"cellar", "a", "b", "a-b", "1", "1.2", "1.10", "1-rc1", "01", "x", "bin", "stage", "keg", "f"}
	roots := []string{"", "", "/cellar", "/cellar/a", "/cellar/b", "/cellar/a/1", "/cellar/a/1.2", "/cellar/b/1", "/stage"}
	var all []api.Tree
	for range many {
		dirs := map[string]bool{"": true}
		items := map[string]api.Item{}
		put := func(item api.Item) {
			if _, is := items[item.Path]; !is && dirs[item.Path[:strings.LastIndex(item.Path, "/")]] {
				items[item.Path] = item
				dirs[item.Path] = item.Kind == api.KDir
			}
		}
		for _, s := range []string{"/cellar/", "/cellar/a/", "/cellar/b/", "/cellar/a/1/"} {
			if next(20) > 0 {
				put(said(s)[0])
			}
		}
		for range next(60) {
			p := roots[next(len(roots))] + "/" + names[next(len(names))]
			if next(2) == 0 {
				p += "/" + names[next(len(names))]
			}
			item := api.Item{Path: p, Kind: api.KDir}
			switch next(12) {
			case 0, 1, 2, 3:
				item.Kind, item.Data = api.KFile, strings.Repeat("x", next(4)*next(4)*next(24))
			case 4:
				item.Kind, item.Data = api.KLink, "../x"
			}
			put(item)
		}
		var l []api.Item
		for _, item := range items {
			l = append(l, item)
		}
		all = append(all, treeOf(l...))
	}
	return all
}

// P15.3, P15.4: trees of all sorts; of each its refs, what it has of each, and that with a part changed.
func TestLawTrees(t *testing.T) {
	count := map[string]int{}
	next := numbers()
	for _, now := range grown(4000) {
		if tree.Check(now) != api.OK {
			t.Fatalf("no tree: %v", now)
		}
		kegs := []api.Keg{{Ref: ref("a", "1")}, {Ref: ref("b", "1")}, {Ref: ref("a", "2")}}
		for _, r := range plainRefs(now) {
			l, _ := plainLeaves(now, r)
			whole := api.Keg{Ref: r, Leaves: l}
			kegs = append(kegs, whole)
			if len(l) > 0 {
				less := deepCopy(whole)
				n := next(len(l))
				less.Leaves = slices.Delete(less.Leaves, n, n+1)
				other := deepCopy(whole)
				other.Leaves[n].Data += "y"
				kegs = append(kegs, less, other)
			}
		}
		holds(t, now, kegs, count)
	}
	often(t, count, 200, "Leaves 0", "Leaves 4", "Leaves 250", "Verify 0", "Verify 4", "Verify 250")
}

// homed is a keg's items with /cellar and its name's directory.
func homed(k api.Keg, items []api.Item) api.Tree {
	return treeOf(append(said("/cellar/", "/cellar/"+k.Ref.Name+"/"), items...)...)
}

// P15.5, P15.2: the items of a keg, with /cellar and its name's directory, are a tree that has it, just as they come, and whose leaves of its ref are its own; it has no other ref.
func TestLawItems(t *testing.T) {
	for _, k := range good() {
		items, e := keg.Items(k)
		if want := plainItems(plainRoot(k.Ref), k.Leaves); !slices.Equal(items, want) || e != api.OK {
			t.Fatalf("Items(%s): %v %d", tell(k), items, e)
		}
		now := api.Tree{Items: append(said("/cellar/", "/cellar/"+k.Ref.Name+"/"), items...)}
		if tree.Check(now) != api.OK || keg.Verify(now, k) != api.OK {
			t.Fatalf("of %s: %v: %d %d", tell(k), now, tree.Check(now), keg.Verify(now, k))
		}
		if l, e := keg.Leaves(now, k.Ref); !slices.Equal(l, k.Leaves) || e != api.OK {
			t.Fatalf("Leaves of the items of %s: %v %d", tell(k), l, e)
		}
		if l := keg.Refs(now); !slices.Equal(l, []api.Ref{k.Ref}) {
			t.Fatalf("Refs of the items of %s: %v", tell(k), l)
		}
	}
}

// P15.3: with one item less, one more, or one that is another, a tree has the keg no longer.
func TestLawOther(t *testing.T) {
	for _, k := range good() {
		items := plainItems(plainRoot(k.Ref), k.Leaves)
		for n, item := range items {
			for _, data := range []string{"", "y", item.Data + "y"} {
				for kind := api.KDir; kind <= api.KLink; kind++ {
					l := slices.Clone(items)
					l[n].Kind, l[n].Data = kind, data
					if now := homed(k, l); tree.Check(now) == api.OK && keg.Verify(now, k) != plainVerify(now, k) {
						t.Fatalf("Verify(%v, %s): %d", now, tell(k), keg.Verify(now, k))
					}
				}
			}
			if less := homed(k, slices.Delete(slices.Clone(items), n, n+1)); tree.Check(less) == api.OK && keg.Verify(less, k) == api.OK {
				t.Fatalf("without %v there is %s in %v", item, tell(k), less)
			}
			if item.Kind != api.KDir {
				continue
			}
			for _, s := range []string{"/+=x", "/zzz/", "/zz>x"} {
				more := said(s)[0]
				more.Path = item.Path + more.Path
				if now := homed(k, append(slices.Clone(items), more)); tree.Check(now) == api.OK && keg.Verify(now, k) != api.ErrKeg {
					t.Fatalf("with %v there is %s in %v", more, tell(k), now)
				}
			}
		}
	}
}

// without are the items of a tree but for those at these paths, and beneath.
func without(now api.Tree, paths ...string) []api.Item {
	return slices.DeleteFunc(slices.Clone(now.Items), func(item api.Item) bool {
		return slices.ContainsFunc(paths, func(p string) bool { return item.Path == p || strings.HasPrefix(item.Path, p+"/") })
	})
}

// ready is a tree in which the keg may be staged: it has /cellar and its name's directory, and nothing at /stage and at its root.
func ready(now api.Tree, k api.Keg) api.Tree {
	items := without(now, "/stage", plainRoot(k.Ref))
	for _, p := range []string{"/cellar", "/cellar/" + k.Ref.Name} {
		n := slices.IndexFunc(items, func(item api.Item) bool { return item.Path == p })
		if n < 0 {
			items = append(items, api.Item{Path: p, Kind: api.KDir})
		} else {
			items[n] = api.Item{Path: p, Kind: api.KDir}
		}
	}
	return treeOf(items...)
}

// stages stages a keg in a tree that is ready for it, on a disk, and moves it, and holds what is there then against what was.
func stages(t *testing.T, was api.Tree, k api.Keg) {
	t.Helper()
	steps, move, e := keg.Stage(k)
	if e != api.OK || redo.Check(move) != api.OK {
		t.Fatalf("Stage(%s): %v %d", tell(k), move, e)
	}
	d, e := disk.New(was)
	if e != api.OK {
		t.Fatalf("no tree: %v", was)
	}
	d, many, e := journal.Run(d, steps)
	if many != len(steps) || e != api.OK {
		t.Fatalf("%s is staged in %v: %d of %d, %d", tell(k), was, many, len(steps), e)
	}
	// The Sync is the last step: all that was staged is safe.
	staged := treeOf(append(append(was.Items, said("/stage/")...), plainItems("/stage/keg", k.Leaves)...)...)
	if !tree.Same(d.Safe, staged) || len(d.Wait) != 0 {
		t.Fatalf("%s is staged in %v: %v", tell(k), was, d)
	}
	now, ops, e := redo.Apply(d.Safe, []api.Redo{move})
	if e != api.OK || len(ops) != 1 {
		t.Fatalf("%s is moved in %v: %v %d", tell(k), d.Safe, ops, e)
	}
	want := treeOf(append(append(was.Items, said("/stage/")...), plainItems(plainRoot(k.Ref), k.Leaves)...)...)
	if !tree.Same(now, want) || keg.Verify(now, k) != api.OK {
		t.Fatalf("%s, staged in %v: %v", tell(k), was, now)
	}
	if l, e := keg.Leaves(now, k.Ref); !slices.Equal(l, k.Leaves) || e != api.OK {
		t.Fatalf("%s, staged: %v %d", tell(k), l, e)
	}
}

// P15.5: staged and moved in trees that have other things.
func TestLawStaged(t *testing.T) {
	trees := append(grown(40), api.Tree{}, treeOf(said("/cellar/", "/cellar/q/", "/cellar/q/1>x", "/keg/", "/keg/bin=x")...))
	for n, k := range good() {
		for m := range 4 {
			stages(t, ready(trees[(4*n+m)%len(trees)], k), k)
		}
	}
	for _, now := range trees {
		for _, k := range []api.Keg{small(), {Ref: ref("a", "1")}, {Ref: ref("b", "1.2"), Leaves: leaves("/bin=x")}, {Ref: greatestRef(), Leaves: deepest()}} {
			stages(t, ready(now, k), k)
		}
	}
}

// P15.5: a ref's root is no other one's, and under no other one's; and it is read from its root again.
func TestLawRoots(t *testing.T) {
	var refs []api.Ref
	for _, name := range []string{"a", "aa", "a.1", "a-1", "1", "1.2", "cellar", "...", long(31), long(32)} {
		for _, text := range []string{"0", "1", "1.0", "10", "1.1", "1.10", "1.2", "1-a", "1-a1", "1-a10", "1-aa", "1.1.1.1", "11", "9999.9999.9999.9999-zzzzzz999"} {
			refs = append(refs, ref(name, text))
		}
	}
	var roots []string
	for _, r := range refs {
		root, e := keg.Root(r)
		if root != plainRoot(r) || e != api.OK {
			t.Fatalf("Root(%v): %q %d", r, root, e)
		}
		parts := strings.Split(root, "/")
		if back, e := version.Read(parts[3]); len(parts) != 4 || parts[2] != r.Name || back != r.Version || e != api.OK {
			t.Fatalf("Root(%v): %q", r, root)
		}
		roots = append(roots, root)
	}
	for n, one := range roots {
		for m, other := range roots {
			if n != m && (one == other || strings.HasPrefix(one, other+"/")) {
				t.Fatalf("%v and %v: %s, %s", refs[n], refs[m], one, other)
			}
		}
	}
	for _, r := range goodRefs() {
		if root, e := keg.Root(r); root != plainRoot(r) || e != api.OK {
			t.Errorf("Root(%v): %q %d", r, root, e)
		}
	}
}

// P15.4, P15.5: of several kegs, in whatever order they come, a tree has all, and their refs.
func TestLawMany(t *testing.T) {
	next := numbers()
	for range 300 {
		byRoot := map[string]api.Keg{}
		for range next(12) {
			k := api.Keg{Ref: ref([]string{"a", "b", "a-b", "ab"}[next(4)], []string{"1", "1.0", "1.2", "1.10", "1-rc2", "1-rc10", "10"}[next(7)]), Leaves: goodLeaves()[next(len(goodLeaves()))]}
			byRoot[plainRoot(k.Ref)] = k
		}
		items := map[string]api.Item{}
		for _, k := range byRoot {
			for _, item := range homed(k, plainItems(plainRoot(k.Ref), k.Leaves)).Items {
				items[item.Path] = item
			}
		}
		var l []api.Item
		for _, item := range items {
			l = append(l, item)
		}
		now := treeOf(l...)
		var refs []api.Ref
		for _, k := range byRoot {
			refs = append(refs, k.Ref)
			if e := keg.Verify(now, k); e != api.OK {
				t.Fatalf("Verify(%v, %s): %d", now, tell(k), e)
			}
		}
		slices.SortFunc(refs, pack.Compare)
		if got := keg.Refs(now); !slices.Equal(got, refs) {
			t.Fatalf("Refs(%v): %v, not %v", now, got, refs)
		}
	}
}

// P15.1: Same is no other than all parts' being the same.
func TestLawSame(t *testing.T) {
	all := append(different(), good()...)
	var told []string
	for _, k := range all {
		told = append(told, tell(k))
	}
	for n, a := range all {
		for m, b := range all {
			if got := keg.Same(a, b); got != (told[n] == told[m]) {
				t.Fatalf("Same(%s, %s): %v", told[n], told[m], got)
			}
		}
	}
}

// R1: no call panics, or goes on without end, at whatever it is given.
func TestRuleEnds(t *testing.T) {
	huge := api.Keg{Ref: api.Ref{Name: long(1 << 20), Version: api.Version{Many: math.MinInt, Tag: long(1 << 20)}}, Needs: make([]api.Need, 1<<18), Leaves: make([]api.Leaf, 1<<18)}
	wide := api.Keg{Ref: ref("a", "1"), Needs: []api.Need{{Name: "b", Span: api.Span{Rows: make([][]api.Bound, 1<<18)}}}, Leaves: leaves("/"+strings.Repeat("a/", 1<<16), "/a="+long(1<<20))}
	crowd := said("/cellar/", "/cellar/a/", "/cellar/a/1/")
	for n := range api.MaxItems - 3 {
		crowd = append(crowd, api.Item{Path: fmt.Sprintf("/cellar/a/1/n%04d", n), Kind: api.KDir + n%3, Data: []string{"", "x", "x"}[n%3]})
	}
	deep := said("/cellar/", "/cellar/a/", "/cellar/a/1/")
	for n := range 37 {
		deep = append(deep, api.Item{Path: "/cellar/a/1" + strings.Repeat("/"+long(32), n+1), Kind: api.KDir})
	}
	trees := append(badTrees(), api.Tree{}, treeOf(crowd...), treeOf(deep...), treeOf(deep[:5]...), api.Tree{Items: make([]api.Item, 1<<18)}, beneath("/l>x"))
	for _, k := range slices.Concat(good(), bad(), different(), []api.Keg{huge, wide, {Ref: ref("a", "1")}}) {
		keg.Check(k)
		keg.Same(k, huge)
		keg.Same(wide, k)
		keg.Of(packOf(k), k.Digest)
		keg.Root(k.Ref)
		keg.Items(k)
		keg.Stage(k)
	}
	for _, now := range trees {
		keg.Refs(now)
		for _, k := range []api.Keg{small(), huge, wide, {}, {Ref: ref("a", "1")}, {Ref: greatestRef(), Leaves: deepest()}} {
			if l, e := keg.Leaves(now, k.Ref); e != api.OK && len(l) != 0 {
				t.Errorf("Leaves: %d beside %d", len(l), e)
			}
			keg.Verify(now, k)
		}
	}
	hasNot(t, treeOf(crowd...), ref("a", "1"), api.ErrKeg)
	hasNot(t, treeOf(deep...), ref("a", "1"), api.ErrKeg)
	refsAre(t, treeOf(crowd...), "a 1")
}

// roomy is a list in other memory, with room behind its end, in which something stands.
func roomy[T any](l []T, room ...T) []T {
	return append(slices.Clone(l), room...)[:len(l)]
}

// roomyKeg is the same keg in other memory, with room behind the end of each list.
func roomyKeg(k api.Keg) api.Keg {
	k = deepCopy(k)
	for n := range k.Needs {
		rows := k.Needs[n].Span.Rows
		for m := range rows {
			rows[m] = roomy(rows[m], api.Bound{Kind: 9})
		}
		k.Needs[n].Span.Rows = roomy(rows, []api.Bound{{Kind: 8}}, nil)
	}
	k.Needs = roomy(k.Needs, needs("room", "zz")...)
	k.Leaves = roomy(k.Leaves, leaves("/room/", "/zz=1")...)
	return k
}

// whole is all that lists have, the room behind their ends, too.
func whole(k api.Keg, now api.Tree) string {
	k.Needs, k.Leaves = slices.Clone(k.Needs[:cap(k.Needs)]), k.Leaves[:cap(k.Leaves)]
	for n := range k.Needs {
		rows := k.Needs[n].Span.Rows
		rows = slices.Clone(rows[:cap(rows)])
		for m := range rows {
			rows[m] = rows[m][:cap(rows[m])]
		}
		k.Needs[n].Span.Rows = rows
	}
	return tell(k) + fmt.Sprintf("%q", fmt.Sprint(now.Items[:cap(now.Items)]))
}

// spoil changes whatever stands in a keg's lists, and in the room behind their ends.
func spoil(k api.Keg) {
	for _, n := range k.Needs[:cap(k.Needs)] {
		rows := n.Span.Rows
		for _, row := range rows[:cap(rows)] {
			fill(row, api.Bound{Kind: -9})
		}
		fill(rows, nil)
	}
	fill(k.Needs, api.Need{Name: "spoilt"})
	fill(k.Leaves, api.Leaf{Path: "/spoilt"})
}

// fill puts something at each place of a list, and in the room behind its end.
func fill[T any](l []T, with T) {
	for n := range l[:cap(l)] {
		l[:cap(l)][n] = with
	}
}

// R3: what is handed in stays as it is, the room behind a list's end, too; and that room changes no answer.
func TestRuleHandedIn(t *testing.T) {
	for _, k := range slices.Concat(good(), bad(), different()) {
		in := roomyKeg(k)
		now := homed(small(), plainItems("/cellar/a/1.2", nil))
		if pack.CheckRef(k.Ref) == api.OK {
			now = homed(k, plainItems(plainRoot(k.Ref), k.Leaves))
		}
		inT := api.Tree{Items: roomy(now.Items, said("/room/", "/room/f=x")...)}
		ahead := whole(in, inT)
		got := fmt.Sprint(keg.Check(in), keg.Same(in, k), keg.Same(k, in), keg.Verify(inT, in), keg.Refs(inT))
		of, ofE := keg.Of(packOf(in), in.Digest)
		items, itemsE := keg.Items(in)
		steps, move, stageE := keg.Stage(in)
		l, leavesE := keg.Leaves(inT, in.Ref)
		if whole(in, inT) != ahead {
			t.Fatalf("%.300s became %.300s", ahead, whole(in, inT))
		}
		got += tell(of) + fmt.Sprint(ofE, items, itemsE, steps, move, stageE, l, leavesE)
		want := fmt.Sprint(keg.Check(k), true, true, plainVerify(now, k), plainRefs(now))
		of, ofE = keg.Of(packOf(k), k.Digest)
		items, itemsE = keg.Items(k)
		steps, move, stageE = keg.Stage(k)
		l, leavesE = keg.Leaves(now, k.Ref)
		want += tell(of) + fmt.Sprint(ofE, items, itemsE, steps, move, stageE, l, leavesE)
		if got != want {
			t.Fatalf("with room behind its ends %.300s: %.300s, not %.300s", tell(k), got, want)
		}
	}
}

// R3: a keg that was made of a pack shares nothing with it, nor with another one that was.
func TestRuleNewKeg(t *testing.T) {
	for _, k := range good() {
		in := roomyKeg(k)
		first, _ := keg.Of(packOf(in), k.Digest)
		second, _ := keg.Of(packOf(in), k.Digest)
		spoil(first)
		if tell(second) != tell(k) || tell(in) != tell(k) {
			t.Fatalf("with a keg spoilt: %s, and %s", tell(second), tell(in))
		}
		spoil(in)
		if tell(second) != tell(k) {
			t.Fatalf("with the pack spoilt: %s", tell(second))
		}
	}
}

// R3: other lists that are answered are new memory, and of what was handed in nothing is kept.
func TestRuleNewMemory(t *testing.T) {
	for _, k := range good() {
		in := roomyKeg(k)
		now := homed(k, plainItems(plainRoot(k.Ref), k.Leaves))
		inT := api.Tree{Items: roomy(now.Items, said("/room/")...)}
		for range 2 {
			items, _ := keg.Items(in)
			steps, _, _ := keg.Stage(in)
			l, _ := keg.Leaves(inT, in.Ref)
			refs := keg.Refs(inT)
			again, _ := keg.Items(in)
			stepsAgain, _, _ := keg.Stage(in)
			lAgain, _ := keg.Leaves(inT, in.Ref)
			refsAgain := keg.Refs(inT)
			fill(items, api.Item{Path: "/spoilt"})
			fill(steps, api.Step{Free: true})
			fill(l, api.Leaf{Path: "/spoilt"})
			fill(refs, api.Ref{Name: "spoilt"})
			if tell(in) != tell(k) || !tree.Same(inT, now) {
				t.Fatalf("with answers spoilt: %s, %v", tell(in), inT)
			}
			spoil(in)
			fill(inT.Items, api.Item{Path: "/spoilt"})
			if !slices.Equal(again, plainItems(plainRoot(k.Ref), k.Leaves)) || !slices.Equal(lAgain, k.Leaves) || !slices.Equal(refsAgain, []api.Ref{k.Ref}) || len(stepsAgain) != len(k.Leaves)+3 || slices.Contains(stepsAgain, api.Step{Free: true}) {
				t.Fatalf("of %s something is kept: %v, %v, %v, %v", tell(k), again, stepsAgain, lAgain, refsAgain)
			}
			in = roomyKeg(k)
			inT = api.Tree{Items: slices.Clone(now.Items)}
		}
	}
}

// R5: each answer is the same in whatever order, and however often, it is asked.
func TestRuleOrder(t *testing.T) {
	kegs := slices.Concat(good(), bad())
	trees := append(grown(30), badTrees()...)
	asked := func(n int) string {
		k, now := kegs[n], trees[n%len(trees)]
		of, ofE := keg.Of(packOf(k), k.Digest)
		items, itemsE := keg.Items(k)
		steps, move, stageE := keg.Stage(k)
		root, rootE := keg.Root(k.Ref)
		l, leavesE := keg.Leaves(now, k.Ref)
		return fmt.Sprint(keg.Check(k), tell(of), ofE, items, itemsE, steps, move, stageE, root, rootE, l, leavesE, keg.Verify(now, k), keg.Refs(now))
	}
	var first []string
	for n := range kegs {
		first = append(first, asked(n))
	}
	for n := range kegs {
		back := len(kegs) - 1 - n
		if got := asked(back); got != first[back] {
			t.Fatalf("of %s: %s, not %s", tell(kegs[back]), got, first[back])
		}
	}
}
