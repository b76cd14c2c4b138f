package keg_test

import (
	"fmt"
	"math"
	"slices"
	"strings"

	"puncheon/api"
	"puncheon/span"
	"puncheon/version"
)

// v is the version of a text that is known to be one's.
func v(text string) api.Version {
	x, e := version.Read(text)
	if e != api.OK {
		panic(text)
	}
	return x
}

// ref is the ref of this name and of the version of this text.
func ref(name, text string) api.Ref {
	return api.Ref{Name: name, Version: v(text)}
}

// need is the need of this name, and of the span of this text.
func need(name, text string) api.Need {
	s, e := span.Read(text)
	if e != api.OK {
		panic(text)
	}
	return api.Need{Name: name, Span: s}
}

// needs are needs of these names, of any version.
func needs(names ...string) []api.Need {
	var l []api.Need
	for _, name := range names {
		l = append(l, need(name, "*"))
	}
	return l
}

// leaves reads leaves: a path that ends in a slash is a directory's, behind an = stand a file's bytes.
func leaves(said ...string) []api.Leaf {
	var l []api.Leaf
	for _, s := range said {
		p, data, _ := strings.Cut(s, "=")
		leaf := api.Leaf{Path: p, Data: data}
		if len(p) > 1 && strings.HasSuffix(p, "/") {
			leaf.Path, leaf.Dir = strings.TrimSuffix(p, "/"), true
		}
		l = append(l, leaf)
	}
	return l
}

// long is a text of n bytes.
func long(n int) string {
	return strings.Repeat("x", n)
}

// numbered are so many texts of n bytes that rise.
func numbered(many, n int) []string {
	var l []string
	for k := range many {
		l = append(l, fmt.Sprintf("%0*d", n, k))
	}
	return l
}

// goodRefs are refs that may be.
func goodRefs() []api.Ref {
	l := []api.Ref{ref(long(32), "1")}
	for _, name := range []string{"a", "z9", "a.b_c+d-e", "0", "...", ".a", "-", "..a"} {
		l = append(l, ref(name, "0"), ref(name, "1.2"), ref(name, "9999.0.0.1"), ref(name, "1-rc"), ref(name, "3.1-b2"))
	}
	return l
}

// badNames are none.
func badNames() []string {
	l := []string{"", ".", "..", "A", "aB", "a b", " ", "a/b", "/", "/a", "a/", "a:", "a;", "é", "\x00", "a\n", "\xff", long(33), long(1000)}
	for n := range 256 {
		c := string([]byte{byte(n)})
		if !strings.Contains("abcdefghijklmnopqrstuvwxyz0123456789._+-", c) {
			l = append(l, c, "a"+c, c+"a")
		}
	}
	return l
}

// badVersions may not be.
func badVersions() []api.Version {
	l := []api.Version{{}, {Many: 5}, {Many: -1}, {Many: math.MaxInt}, {Many: math.MinInt}}
	for _, change := range []func(*api.Version){
		func(x *api.Version) { x.Many = 0 }, func(x *api.Version) { x.Many = 1 }, func(x *api.Version) { x.Numbers[0] = -1 }, func(x *api.Version) { x.Numbers[1] = 10000 }, func(x *api.Version) { x.Numbers[2] = 1 },
		func(x *api.Version) { x.Step = 1 }, func(x *api.Version) { x.Tag = "A" }, func(x *api.Version) { x.Tag = "abcdefg" }, func(x *api.Version) { x.Tag, x.Step = "rc", 1000 }, func(x *api.Version) { x.Tag, x.Step = "rc", -1 },
	} {
		x := v("1.2")
		change(&x)
		l = append(l, x)
	}
	return l
}

// badRefs may not be.
func badRefs() []api.Ref {
	l := []api.Ref{{}, {Name: "a"}, {Version: v("1")}}
	for _, name := range badNames() {
		l = append(l, ref(name, "1.2"))
	}
	for _, x := range badVersions() {
		l = append(l, api.Ref{Name: "a", Version: x})
	}
	return l
}

// goodNeeds may be those of the pack a, and somebody's anyway.
func goodNeeds() [][]api.Need {
	l := [][]api.Need{nil, {}, needs("b"), needs("b", "c"), needs("b", "c", "d", "e"), needs("0", "b"), needs("b", "ba"), needs("b-a", "b.a", "b0", "b_"), needs("aa"), needs(long(31), long(32)), needs(numbered(4, 32)...)}
	for _, text := range []string{"=1", "!=1-rc1", ">=1.2,<2||3.1.*", "*||*||*||*", "=1,=1,=1,=1"} {
		l = append(l, []api.Need{need("b", text)}, []api.Need{need("b", text), need("c", text)})
	}
	return append(l, fullNeeds())
}

// badSpans may not be.
func badSpans() []api.Span {
	is := api.Bound{Kind: api.BdIs, Version: v("1")}
	l := []api.Span{{}, {Rows: [][]api.Bound{}}, {Rows: make([][]api.Bound, 5)}, {Rows: [][]api.Bound{{is, is, is, is, is}}}, {Rows: [][]api.Bound{{is}, {{}}}}}
	for _, kind := range []int{0, 8, -1, math.MaxInt} {
		l = append(l, api.Span{Rows: [][]api.Bound{{{Kind: kind, Version: v("1")}}}})
	}
	for _, x := range badVersions() {
		l = append(l, api.Span{Rows: [][]api.Bound{{{Kind: api.BdFrom, Version: x}}}})
	}
	return append(l, api.Span{Rows: [][]api.Bound{{{Kind: api.BdLike, Version: v("1-a")}}}})
}

// badNeeds may be nobody's.
func badNeeds() [][]api.Need {
	l := [][]api.Need{
		{{}}, {{Name: "b"}}, {need("b", "*"), {}}, needs("b", "b"), needs("b", "c", "c"), needs("b", "b", "c"), needs("c", "b"), needs("b", "d", "c"), needs("c", "b", "d"), needs("ba", "b"), needs("b", "B"), needs("b_", "b-"),
		{need("b", "=1"), need("b", "=2")}, {need("b", "=2"), need("b", "=1")}, {need("b", "=1"), need("c", "*"), need("b", "=2")},
		needs("b", "c", "d", "e", "f"), needs("b", "c", "d", "e", "f", "g"), needs(numbered(5, 1)...), needs(numbered(1000, 4)...),
	}
	for _, name := range badNames() {
		l = append(l, needs(name), needs(name, "zz"), []api.Need{need("-", "*"), {Name: name, Span: need("b", "*").Span}})
	}
	for _, s := range badSpans() {
		l = append(l, []api.Need{{Name: "b", Span: s}}, []api.Need{{Name: "b", Span: s}, need("c", "*")}, []api.Need{need("b", "*"), need("c", "*"), {Name: "d", Span: s}})
	}
	return l
}

// rooted are files of these names in the root.
func rooted(names []string) []api.Leaf {
	var l []api.Leaf
	for _, name := range names {
		l = append(l, leaves("/"+name)...)
	}
	return l
}

// deep is a row of directories, each in the one ahead, down to one whose path has 60 bytes.
func deep() []api.Leaf {
	var l []api.Leaf
	for n := range 15 {
		l = append(l, leaves(strings.Repeat("/abc", n+1)+"/")...)
	}
	return l
}

// goodLeaves may be a pack's.
func goodLeaves() [][]api.Leaf {
	name := long(29)
	return [][]api.Leaf{
		nil, {}, leaves("/a"), leaves("/a="), leaves("/a=\x00"), leaves("/a/"), leaves("/a/", "/b/"), leaves("/a/", "/a/b"), leaves("/a/", "/a/b/", "/a/b/c/", "/a/b/c/d=1"), leaves("/a", "/b/", "/b/c", "/d"),
		// By names, not byte by byte: all of a directory stands behind it, side by side.
		leaves("/a/", "/a/b", "/a-b", "/a.b"), leaves("/a/", "/a/z", "/a+"), leaves("/a-b", "/ab"), leaves("/a", "/a-/", "/a-/a", "/a0"),
		leaves("/"+name+"/", "/"+name+"/"+name), leaves("/"+name+"/", "/"+name+"/"+name+"/"), leaves("/"+name+"/", "/"+name+"/"+name+"="+long(200)), deep(),
		leaves("/a=" + long(200)), leaves("/a="+long(199), "/b="+long(200)), rooted(numbered(15, 2)), rooted(numbered(16, 2)), rooted(numbered(16, 32)), append(leaves("/-/"), rooted(numbered(15, 2))...), fullLeaves(),
		leaves("/...", "/a/", "/a/.b"), leaves("/a=/=:;\n"), leaves("/a=\xff\xfe"),
	}
}

// badLeaves may be no pack's.
func badLeaves() [][]api.Leaf {
	name := long(29)
	l := [][]api.Leaf{
		{{}}, {{Dir: true}}, leaves("/"), {{Path: "/", Dir: true}}, {{Path: "/", Dir: true}, {Path: "/a"}}, leaves("/", "/a"), leaves("/a", "/"), leaves("a"), leaves("bin/"), leaves("/a//"), {{Path: "/a/"}}, leaves("//"), leaves("//a"), leaves("/a/", "/a//b"), leaves("/a/", "/a/.."), leaves("/a/", "/a/./"), leaves("/."), leaves("/.."), leaves("/A"), leaves("/a b"), leaves("/é"), leaves("/\xff"), leaves("/a\x00"),
		{{Path: "/a", Dir: true, Data: "1"}}, {{Path: "/a", Dir: true, Data: "\x00"}}, {{Path: "/a", Dir: true, Data: long(200)}}, {{Path: "/a", Dir: true}, {Path: "/b", Dir: true, Data: "1"}},
		leaves("/a=" + long(201)), leaves("/a="+long(201), "/b"), leaves("/a", "/b="+long(201)), leaves("/a=" + long(1<<16)), {{Path: "/a", Dir: true, Data: long(201)}},
		leaves("/a", "/a"), leaves("/a/", "/a/"), leaves("/a", "/a/"), leaves("/a/", "/a"), leaves("/a=1", "/a=2"), leaves("/a/", "/a/b", "/a/b"), leaves("/a", "/b", "/b", "/c"), leaves("/a/", "/a/b", "/a/"),
		leaves("/b", "/a"), leaves("/a/b", "/a/"), leaves("/a/", "/a/c", "/a/b"), leaves("/a/", "/a-b", "/a/b"), leaves("/a/", "/a.b", "/a/b", "/b"), leaves("/ab", "/a-b"), leaves("/a", "/c", "/b"), leaves("/b/", "/b/a", "/a"), leaves("/c", "/a", "/b"),
		leaves("/a/b"), leaves("/a/b/"), leaves("/a/", "/b/c"), leaves("/b/", "/a/c"), leaves("/a/", "/a/b/c"), leaves("/a/", "/a/b/c", "/a/d"), leaves("/a/", "/aa/b"), leaves("/ab/", "/a/b"), leaves("/a/", "/a/b/", "/b/c"), leaves("/a/b/c", "/a/b/", "/a/"),
		leaves("/a", "/a/b"), leaves("/a=", "/a/b/"), leaves("/a/", "/a/b", "/a/b/c"), leaves("/a/", "/a/b=x", "/a/b/c/"),
		leaves("/"+name+"/", "/"+name+"/"+name+"x"), leaves("/"+name+"/", "/"+name+"/"+name+"x/"), leaves("/"+name+"/", "/"+name+"/"+name+"x="+long(200)), append(deep(), leaves(strings.Repeat("/abc", 15)+"/d")...),
		leaves("/" + long(33)), leaves("/" + long(60)), leaves("/" + long(61)), leaves(strings.Repeat("/a", 41)), leaves("/a", "/"+long(1<<16)),
		rooted(numbered(17, 2)), rooted(numbered(18, 2)), rooted(numbered(1000, 4)), make([]api.Leaf, 16), make([]api.Leaf, 17), append(fullLeaves(), leaves("/z")...),
	}
	for _, name := range badNames() {
		l = append(l, []api.Leaf{{Path: "/" + name}}, []api.Leaf{{Path: "/a", Dir: true}, {Path: "/a/" + name}}, []api.Leaf{{Path: "x" + name}})
	}
	return l
}

// fullNeeds are as many as there may be, each text as long as it may be.
func fullNeeds() []api.Need {
	row := strings.Join(slices.Repeat([]string{">=9999.9999.9999.9999-zzzzzz999"}, api.MaxBounds), ",")
	text := strings.Join(slices.Repeat([]string{row}, api.MaxChoices), "||")
	var l []api.Need
	for _, name := range numbered(api.MaxNeeds, api.MaxName) {
		l = append(l, need(name, text))
	}
	return l
}

// fullLeaves are as many as there may be, each text as long as it may be.
func fullLeaves() []api.Leaf {
	top := "/" + long(api.MaxName)
	l := leaves(top + "/")
	for _, name := range numbered(api.MaxLeaves-1, api.MaxPath-len(top)-1) {
		l = append(l, api.Leaf{Path: top + "/" + name, Data: strings.Repeat("\xff", api.MaxLeaf)})
	}
	return l
}

// deepest is a row of directories, each in the one ahead, and a file as deep as one may stand, whose path is as long as it may be.
func deepest() []api.Leaf {
	var l []api.Leaf
	for n := range api.MaxLeaves - 1 {
		l = append(l, leaves(strings.Repeat("/a", n+1)+"/")...)
	}
	return append(l, leaves(strings.Repeat("/a", api.MaxLeaves-1)+"/"+long(api.MaxPath-2*(api.MaxLeaves-1)-1))...)
}

// greatestRef is the one whose root is the longest.
func greatestRef() api.Ref {
	return ref(long(api.MaxName), "9999.9999.9999.9999-zzzzzz999")
}

// digests are some of all sorts: any may be a keg's.
func digests() []api.Digest {
	full := api.Digest(slices.Repeat([]byte{255}, len(api.Digest{})))
	return []api.Digest{{}, {1}, {31: 1}, {0: 7, 15: 8, 31: 9}, full}
}

// small is the chapter's keg.
func small() api.Keg {
	return api.Keg{Ref: ref("a", "1.2"), Leaves: leaves("/bin/", "/bin/a=\x07")}
}

// kegs are those of these refs, needs and leaves, of each at least one, and of all sorts of digests.
func kegs(refs []api.Ref, needs [][]api.Need, leaves [][]api.Leaf) []api.Keg {
	var l []api.Keg
	for n := range max(len(refs), len(needs), len(leaves)) {
		l = append(l, api.Keg{Ref: refs[n%len(refs)], Digest: digests()[n%len(digests())], Needs: needs[n%len(needs)], Leaves: leaves[n%len(leaves)]})
	}
	return l
}

// others are refs of a name that no needs here have.
func others() []api.Ref {
	return []api.Ref{ref("q", "1"), ref("q", "1.2-rc3")}
}

// good are kegs that may be.
func good() []api.Keg {
	l := []api.Keg{small(), {Ref: ref("b", "1")}, {Ref: ref("b", "1"), Needs: needs("a")}, {Ref: greatestRef(), Needs: fullNeeds(), Leaves: fullLeaves()}, {Ref: greatestRef(), Leaves: deepest()}}
	l = append(l, kegs(goodRefs(), [][]api.Need{nil, needs("q")}, goodLeaves())...)
	return append(l, kegs(others(), goodNeeds(), goodLeaves())...)
}

// bad are kegs that may not be, by one of their parts, or by more.
func bad() []api.Keg {
	l := []api.Keg{{}, {Digest: digests()[4]}}
	// One's own name may be in no needs, at whatever place.
	for _, name := range []string{"a", "b", "c"} {
		l = append(l, api.Keg{Ref: ref(name, "1"), Needs: needs("a", "b", "c")}, api.Keg{Ref: ref(name, "1"), Needs: needs(name), Leaves: leaves("/a")})
	}
	l = append(l, kegs(badRefs(), [][]api.Need{nil, needs("q")}, goodLeaves())...)
	l = append(l, kegs(others(), badNeeds(), goodLeaves())...)
	l = append(l, kegs(others(), goodNeeds(), badLeaves())...)
	l = append(l, kegs(badRefs(), badNeeds(), goodLeaves())...)
	l = append(l, kegs(badRefs(), goodNeeds(), badLeaves())...)
	l = append(l, kegs(others(), badNeeds(), badLeaves())...)
	return append(l, kegs(badRefs(), badNeeds(), badLeaves())...)
}

// packOf is the keg without its digest.
func packOf(k api.Keg) api.Pack {
	return api.Pack{Ref: k.Ref, Needs: k.Needs, Leaves: k.Leaves}
}

// tellPack are texts that two packs have alike just if they are the same, part by part.
func tellPack(p api.Pack) string {
	l := []string{fmt.Sprintf("%q %q", p.Ref.Name, fmt.Sprint(p.Ref.Version))}
	for _, n := range p.Needs {
		l = append(l, fmt.Sprintf("need %q", n.Name))
		for _, row := range n.Span.Rows {
			l = append(l, fmt.Sprintf("row %d", len(row)))
			for _, b := range row {
				l = append(l, fmt.Sprintf("%d %q", b.Kind, fmt.Sprint(b.Version)))
			}
		}
	}
	for _, leaf := range p.Leaves {
		l = append(l, fmt.Sprintf("leaf %q %v %q", leaf.Path, leaf.Dir, leaf.Data))
	}
	return strings.Join(l, "; ")
}

// tell are texts that two kegs have alike just if they are the same, part by part.
func tell(k api.Keg) string {
	return fmt.Sprintf("%x %s", k.Digest, tellPack(packOf(k)))
}

// said reads items: a path that ends in a slash is a directory's, behind an = stand a file's bytes, behind a > what a link says.
func said(l ...string) []api.Item {
	var items []api.Item
	for _, s := range l {
		at := strings.IndexAny(s, "=>")
		switch {
		case at < 0 && strings.HasSuffix(s, "/"):
			items = append(items, api.Item{Path: strings.TrimSuffix(s, "/"), Kind: api.KDir})
		case at < 0:
			items = append(items, api.Item{Path: s, Kind: api.KFile})
		case s[at] == '=':
			items = append(items, api.Item{Path: s[:at], Kind: api.KFile, Data: s[at+1:]})
		default:
			items = append(items, api.Item{Path: s[:at], Kind: api.KLink, Data: s[at+1:]})
		}
	}
	return items
}

// ahead tells in which order two paths stand: nothing that a name has is less than what stands here in the place of /.
func ahead(p, q string) int {
	return strings.Compare(strings.ReplaceAll(p, "/", "\x00"), strings.ReplaceAll(q, "/", "\x00"))
}

// treeOf is the tree of these items, put in order.
func treeOf(items ...api.Item) api.Tree {
	items = slices.Clone(items)
	slices.SortFunc(items, func(a, b api.Item) int { return ahead(a.Path, b.Path) })
	return api.Tree{Items: items}
}

// badTrees may not be, though a keg's items stand in them.
func badTrees() []api.Tree {
	with := func(l ...string) api.Tree {
		return api.Tree{Items: append(said("/cellar/", "/cellar/a/", "/cellar/a/1.2/", "/cellar/a/1.2/bin/", "/cellar/a/1.2/bin/a=\x07"), said(l...)...)}
	}
	l := []api.Tree{
		{Items: []api.Item{{}}}, {Items: []api.Item{{Path: "/", Kind: api.KDir}}}, {Items: said("/cellar/a/1.2/")}, {Items: said("/cellar/", "/cellar/a/1.2/")}, {Items: said("/cellar/a/", "/cellar/a/1.2/")},
		with("/a"), with("/z/", "/z/"), with("/z>"), with("/z/a"), with("/Z"), with("z"), with("/z//"), with("/z=" + long(api.MaxFile+1)), with("/z>" + long(api.MaxLong+1)), with("/cellar/a/1.2/"),
	}
	for _, kind := range []int{0, 4, -1, math.MinInt, math.MaxInt} {
		t := with()
		t.Items = append(t.Items, api.Item{Path: "/z", Kind: kind})
		l = append(l, t)
	}
	t := with("/z/")
	t.Items[5].Data = "x"
	l = append(l, t, api.Tree{Items: said("/cellar=x", "/cellar/a/", "/cellar/a/1.2/")})
	many := with()
	for n := range api.MaxItems {
		many.Items = append(many.Items, api.Item{Path: fmt.Sprintf("/z%04d", n), Kind: api.KFile})
	}
	return append(l, many, api.Tree{Items: many.Items[:api.MaxItems+1]})
}
