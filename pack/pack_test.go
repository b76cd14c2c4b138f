package pack_test

import (
	"crypto/sha256"
	"fmt"
	"math"
	"slices"
	"strings"
	"testing"

	"puncheon/api"
	"puncheon/pack"
	"puncheon/span"
	"puncheon/version"
)

// v is the version of a text that is known to be one's.
func v(text string) api.Version {
	x, e := version.Read(text)
	if e != api.OK {
		panic(text)
	}
	return x
}

// ref is the ref of this name and of the version of this text.
func ref(name, text string) api.Ref {
	return api.Ref{Name: name, Version: v(text)}
}

// need is the need of this name, and of the span of this text.
func need(name, text string) api.Need {
	s, e := span.Read(text)
	if e != api.OK {
		panic(text)
	}
	return api.Need{Name: name, Span: s}
}

// needs are needs of these names, of any version.
func needs(names ...string) []api.Need {
	var l []api.Need
	for _, name := range names {
		l = append(l, need(name, "*"))
	}
	return l
}

// leaves reads leaves: a path that ends in a slash is a directory's, behind an = stand a file's bytes.
func leaves(said ...string) []api.Leaf {
	var l []api.Leaf
	for _, s := range said {
		p, data, _ := strings.Cut(s, "=")
		leaf := api.Leaf{Path: p, Data: data}
		if len(p) > 1 && strings.HasSuffix(p, "/") {
			leaf.Path, leaf.Dir = strings.TrimSuffix(p, "/"), true
		}
		l = append(l, leaf)
	}
	return l
}

// long is a text of n bytes.
func long(n int) string {
	return strings.Repeat("x", n)
}

// small is the chapter's pack.
func small() api.Pack {
	return api.Pack{Ref: ref("a", "1.2"), Needs: []api.Need{need("b", ">=1")}, Leaves: leaves("/bin/", "/bin/a=\x07")}
}

// numbered are so many texts of n bytes that rise.
func numbered(many, n int) []string {
	var l []string
	for k := range many {
		l = append(l, fmt.Sprintf("%0*d", n, k))
	}
	return l
}

// greatest is the pack whose archive is the longest: each text is as long as it may be. One directory is needed, since in the root no path is longer than 33 bytes; one does.
func greatest() api.Pack {
	at := "9999.9999.9999.9999-zzzzzz999"
	row := strings.Join(slices.Repeat([]string{">=" + at}, api.MaxBounds), ",")
	text := strings.Join(slices.Repeat([]string{row}, api.MaxChoices), "||")
	p := api.Pack{Ref: ref(long(api.MaxName), at)}
	for _, name := range numbered(api.MaxNeeds, api.MaxName) {
		p.Needs = append(p.Needs, need(name, text))
	}
	top := "/" + long(api.MaxName)
	p.Leaves = leaves(top + "/")
	for _, name := range numbered(api.MaxLeaves-1, api.MaxPath-len(top)-1) {
		p.Leaves = append(p.Leaves, api.Leaf{Path: top + "/" + name, Data: strings.Repeat("\xff", api.MaxLeaf)})
	}
	return p
}

// goodRefs are refs that may be.
func goodRefs() []api.Ref {
	l := []api.Ref{ref(long(32), "1")}
	for _, name := range []string{"a", "z9", "a.b_c+d-e", "0", "...", ".a", "-", "..a"} {
		l = append(l, ref(name, "0"), ref(name, "1.2"), ref(name, "9999.0.0.1"), ref(name, "1-rc"), ref(name, "3.1-b2"))
	}
	return l
}

// badNames are none.
func badNames() []string {
	l := []string{"", ".", "..", "A", "aB", "a b", " ", "a/b", "/", "/a", "a/", "a:", "a;", "é", "\x00", "a\n", "\xff", long(33), long(1000)}
	for n := range 256 {
		c := string([]byte{byte(n)})
		if !strings.Contains("abcdefghijklmnopqrstuvwxyz0123456789._+-", c) {
			l = append(l, c, "a"+c, c+"a")
		}
	}
	return l
}

// badVersions may not be.
func badVersions() []api.Version {
	l := []api.Version{{}, {Many: 5}, {Many: -1}, {Many: math.MaxInt}, {Many: math.MinInt}}
	for _, change := range []func(*api.Version){
		func(x *api.Version) { x.Many = 0 }, func(x *api.Version) { x.Many = 1 }, func(x *api.Version) { x.Numbers[0] = -1 }, func(x *api.Version) { x.Numbers[1] = 10000 }, func(x *api.Version) { x.Numbers[2] = 1 },
		func(x *api.Version) { x.Step = 1 }, func(x *api.Version) { x.Tag = "A" }, func(x *api.Version) { x.Tag = "abcdefg" }, func(x *api.Version) { x.Tag, x.Step = "rc", 1000 }, func(x *api.Version) { x.Tag, x.Step = "rc", -1 },
	} {
		x := v("1.2")
		change(&x)
		l = append(l, x)
	}
	return l
}

// badRefs may not be.
func badRefs() []api.Ref {
	l := []api.Ref{{}, {Name: "a"}, {Version: v("1")}}
	for _, name := range badNames() {
		l = append(l, ref(name, "1.2"))
	}
	for _, x := range badVersions() {
		l = append(l, api.Ref{Name: "a", Version: x})
	}
	return l
}

// goodNeeds may be those of the pack a, and somebody's anyway.
func goodNeeds() [][]api.Need {
	l := [][]api.Need{nil, {}, needs("b"), needs("b", "c"), needs("b", "c", "d", "e"), needs("0", "b"), needs("b", "ba"), needs("b-a", "b.a", "b0", "b_"), needs("aa"), needs(long(31), long(32)), needs(numbered(4, 32)...)}
	for _, text := range []string{"=1", "!=1-rc1", ">=1.2,<2||3.1.*", "*||*||*||*", "=1,=1,=1,=1"} {
		l = append(l, []api.Need{need("b", text)}, []api.Need{need("b", text), need("c", text)})
	}
	return append(l, greatest().Needs)
}

// badSpans may not be.
func badSpans() []api.Span {
	is := api.Bound{Kind: api.BdIs, Version: v("1")}
	l := []api.Span{{}, {Rows: [][]api.Bound{}}, {Rows: make([][]api.Bound, 5)}, {Rows: [][]api.Bound{{is, is, is, is, is}}}, {Rows: [][]api.Bound{{is}, {{}}}}}
	for _, kind := range []int{0, 8, -1, math.MaxInt} {
		l = append(l, api.Span{Rows: [][]api.Bound{{{Kind: kind, Version: v("1")}}}})
	}
	for _, x := range badVersions() {
		l = append(l, api.Span{Rows: [][]api.Bound{{{Kind: api.BdFrom, Version: x}}}})
	}
	return append(l, api.Span{Rows: [][]api.Bound{{{Kind: api.BdLike, Version: v("1-a")}}}})
}

// badNeeds may be nobody's.
func badNeeds() [][]api.Need {
	l := [][]api.Need{
		{{}}, {{Name: "b"}}, {need("b", "*"), {}}, needs("b", "b"), needs("b", "c", "c"), needs("b", "b", "c"), needs("c", "b"), needs("b", "d", "c"), needs("c", "b", "d"), needs("ba", "b"), needs("b", "B"), needs("b_", "b-"),
		{need("b", "=1"), need("b", "=2")}, {need("b", "=2"), need("b", "=1")}, {need("b", "=1"), need("c", "*"), need("b", "=2")},
		needs("b", "c", "d", "e", "f"), needs("b", "c", "d", "e", "f", "g"), needs(numbered(5, 1)...), needs(numbered(1000, 4)...),
	}
	for _, name := range badNames() {
		l = append(l, needs(name), needs(name, "zz"), []api.Need{need("-", "*"), {Name: name, Span: need("b", "*").Span}})
	}
	for _, s := range badSpans() {
		l = append(l, []api.Need{{Name: "b", Span: s}}, []api.Need{{Name: "b", Span: s}, need("c", "*")}, []api.Need{need("b", "*"), need("c", "*"), {Name: "d", Span: s}})
	}
	return l
}

// rooted are files of these names in the root.
func rooted(names []string) []api.Leaf {
	var l []api.Leaf
	for _, name := range names {
		l = append(l, leaves("/"+name)...)
	}
	return l
}

// deep is a row of directories, each in the one ahead, down to one whose path has 60 bytes.
func deep() []api.Leaf {
	var l []api.Leaf
	for n := range 15 {
		l = append(l, leaves(strings.Repeat("/abc", n+1)+"/")...)
	}
	return l
}

// goodLeaves may be a pack's.
func goodLeaves() [][]api.Leaf {
	name := long(29)
	return [][]api.Leaf{
		nil, {}, leaves("/a"), leaves("/a="), leaves("/a=\x00"), leaves("/a/"), leaves("/a/", "/b/"), leaves("/a/", "/a/b"), leaves("/a/", "/a/b/", "/a/b/c/", "/a/b/c/d=1"), leaves("/a", "/b/", "/b/c", "/d"),
		// By names, not byte by byte: all of a directory stands behind it, side by side.
		leaves("/a/", "/a/b", "/a-b", "/a.b"), leaves("/a/", "/a/z", "/a+"), leaves("/a-b", "/ab"), leaves("/a", "/a-/", "/a-/a", "/a0"),
		leaves("/"+name+"/", "/"+name+"/"+name), leaves("/"+name+"/", "/"+name+"/"+name+"/"), leaves("/"+name+"/", "/"+name+"/"+name+"="+long(200)), deep(),
		leaves("/a=" + long(200)), leaves("/a="+long(199), "/b="+long(200)), rooted(numbered(15, 2)), rooted(numbered(16, 2)), rooted(numbered(16, 32)), append(leaves("/-/"), rooted(numbered(15, 2))...), greatest().Leaves,
		leaves("/...", "/a/", "/a/.b"), leaves("/a=/=:;\n"), leaves("/a=\xff\xfe"),
	}
}

// badLeaves may be no pack's.
func badLeaves() [][]api.Leaf {
	name := long(29)
	l := [][]api.Leaf{
		{{}}, {{Dir: true}}, leaves("/"), {{Path: "/", Dir: true}}, {{Path: "/", Dir: true}, {Path: "/a"}}, leaves("/", "/a"), leaves("/a", "/"), leaves("a"), leaves("bin/"), leaves("/a//"), {{Path: "/a/"}}, leaves("//"), leaves("//a"), leaves("/a/", "/a//b"), leaves("/a/", "/a/.."), leaves("/a/", "/a/./"), leaves("/."), leaves("/.."), leaves("/A"), leaves("/a b"), leaves("/é"), leaves("/\xff"), leaves("/a\x00"),
		{{Path: "/a", Dir: true, Data: "1"}}, {{Path: "/a", Dir: true, Data: "\x00"}}, {{Path: "/a", Dir: true, Data: long(200)}}, {{Path: "/a", Dir: true}, {Path: "/b", Dir: true, Data: "1"}},
		leaves("/a=" + long(201)), leaves("/a="+long(201), "/b"), leaves("/a", "/b="+long(201)), leaves("/a=" + long(1<<16)), {{Path: "/a", Dir: true, Data: long(201)}},
		leaves("/a", "/a"), leaves("/a/", "/a/"), leaves("/a", "/a/"), leaves("/a/", "/a"), leaves("/a=1", "/a=2"), leaves("/a/", "/a/b", "/a/b"), leaves("/a", "/b", "/b", "/c"), leaves("/a/", "/a/b", "/a/"),
		leaves("/b", "/a"), leaves("/a/b", "/a/"), leaves("/a/", "/a/c", "/a/b"), leaves("/a/", "/a-b", "/a/b"), leaves("/a/", "/a.b", "/a/b", "/b"), leaves("/ab", "/a-b"), leaves("/a", "/c", "/b"), leaves("/b/", "/b/a", "/a"), leaves("/c", "/a", "/b"),
		leaves("/a/b"), leaves("/a/b/"), leaves("/a/", "/b/c"), leaves("/b/", "/a/c"), leaves("/a/", "/a/b/c"), leaves("/a/", "/a/b/c", "/a/d"), leaves("/a/", "/aa/b"), leaves("/ab/", "/a/b"), leaves("/a/", "/a/b/", "/b/c"), leaves("/a/b/c", "/a/b/", "/a/"),
		leaves("/a", "/a/b"), leaves("/a=", "/a/b/"), leaves("/a/", "/a/b", "/a/b/c"), leaves("/a/", "/a/b=x", "/a/b/c/"),
		leaves("/"+name+"/", "/"+name+"/"+name+"x"), leaves("/"+name+"/", "/"+name+"/"+name+"x/"), leaves("/"+name+"/", "/"+name+"/"+name+"x="+long(200)), append(deep(), leaves(strings.Repeat("/abc", 15)+"/d")...),
		leaves("/" + long(33)), leaves("/" + long(60)), leaves("/" + long(61)), leaves(strings.Repeat("/a", 41)), leaves("/a", "/"+long(1<<16)),
		rooted(numbered(17, 2)), rooted(numbered(18, 2)), rooted(numbered(1000, 4)), make([]api.Leaf, 16), make([]api.Leaf, 17), append(greatest().Leaves, leaves("/z")...),
	}
	for _, name := range badNames() {
		l = append(l, []api.Leaf{{Path: "/" + name}}, []api.Leaf{{Path: "/a", Dir: true}, {Path: "/a/" + name}}, []api.Leaf{{Path: "x" + name}})
	}
	return l
}

// packs are those of these refs, needs and leaves, of each at least one.
func packs(refs []api.Ref, needs [][]api.Need, leaves [][]api.Leaf) []api.Pack {
	var l []api.Pack
	for n := range max(len(refs), len(needs), len(leaves)) {
		l = append(l, api.Pack{Ref: refs[n%len(refs)], Needs: needs[n%len(needs)], Leaves: leaves[n%len(leaves)]})
	}
	return l
}

// other are refs of a name that no needs here have.
var other = []api.Ref{ref("q", "1"), ref("q", "1.2-rc3")}

// good are packs that may be.
func good() []api.Pack {
	l := []api.Pack{small(), greatest(), {Ref: ref("b", "1")}}
	l = append(l, packs(goodRefs(), [][]api.Need{nil, needs("q")}, goodLeaves())...)
	return append(l, packs(other, goodNeeds(), goodLeaves())...)
}

// bad are packs that may not be, each by one of its parts.
func bad() []api.Pack {
	l := []api.Pack{{}, {Ref: ref("a", "1"), Needs: needs("a")}, {Ref: ref("b", "1"), Needs: needs("a", "b", "c")}, {Ref: ref("c", "1"), Needs: needs("a", "b", "c")}, {Ref: ref("a", "1"), Needs: needs("a", "b", "c")}}
	l = append(l, packs(badRefs(), [][]api.Need{nil, needs("q")}, goodLeaves())...)
	l = append(l, packs(other, badNeeds(), goodLeaves())...)
	return append(l, packs(other, goodNeeds(), badLeaves())...)
}

// alike tells whether two packs are the same, without the package that is tried.
func alike(a, b api.Pack) bool {
	return fmt.Sprintf("%q", bare(a)) == fmt.Sprintf("%q", bare(b))
}

// bare is the pack in rows of texts.
func bare(p api.Pack) [][]string {
	l := [][]string{{p.Ref.Name, fmt.Sprint(p.Ref.Version)}}
	for _, n := range p.Needs {
		l = append(l, []string{"need", n.Name})
		for _, row := range n.Span.Rows {
			l = append(l, []string{"row", fmt.Sprint(row, len(row))})
		}
	}
	for _, leaf := range p.Leaves {
		l = append(l, []string{"leaf", leaf.Path, fmt.Sprint(leaf.Dir), leaf.Data})
	}
	return l
}

// P9.1: CheckRef.
func TestCheckRef(t *testing.T) {
	for _, r := range goodRefs() {
		if e := pack.CheckRef(r); e != api.OK {
			t.Errorf("CheckRef(%v): %d", r, e)
		}
	}
	for _, r := range badRefs() {
		if e := pack.CheckRef(r); e != api.ErrPack {
			t.Errorf("CheckRef(%v): %d", r, e)
		}
	}
}

// P9.1: CheckNeeds, whose needs they may be.
func TestCheckNeeds(t *testing.T) {
	for _, l := range append(goodNeeds(), needs("a"), needs("a", "b", "c"), needs("q")) {
		if e := pack.CheckNeeds(l); e != api.OK {
			t.Errorf("CheckNeeds(%v): %d", l, e)
		}
	}
	for _, l := range badNeeds() {
		if e := pack.CheckNeeds(l); e != api.ErrPack {
			t.Errorf("CheckNeeds(%.300v): %d", l, e)
		}
	}
}

// P9.1: CheckLeaves.
func TestCheckLeaves(t *testing.T) {
	for _, l := range goodLeaves() {
		if e := pack.CheckLeaves(l); e != api.OK {
			t.Errorf("CheckLeaves(%v): %d", l, e)
		}
	}
	for _, l := range badLeaves() {
		if e := pack.CheckLeaves(l); e != api.ErrPack {
			t.Errorf("CheckLeaves(%.300v): %d", l, e)
		}
	}
}

// P9.1: Check, of each part, and of the own name.
func TestCheck(t *testing.T) {
	for _, p := range good() {
		if e := pack.Check(p); e != api.OK {
			t.Errorf("Check(%v): %d", p, e)
		}
	}
	for _, p := range bad() {
		if e := pack.Check(p); e != api.ErrPack {
			t.Errorf("Check(%.300v): %d", p, e)
		}
	}
	for _, l := range goodNeeds() {
		for _, n := range l {
			p := api.Pack{Ref: ref(n.Name, "1"), Needs: l}
			if pack.Check(p) != api.ErrPack || pack.CheckNeeds(l) != api.OK {
				t.Errorf("Check of the own name: %v", p)
			}
		}
	}
}

// different are packs of which each two differ, in just one part, for the most: some may not be.
func different() []api.Pack {
	p := small()
	l := []api.Pack{p, {}}
	for _, r := range []api.Ref{ref("b", "1.2"), ref("a", "1.2.0"), ref("a", "1.3"), ref("a", "1.2-rc"), ref("a", "1.2-rc1"), {Name: "a"}, {Name: "", Version: v("1.2")}, {Name: "a", Version: api.Version{Many: 9}}} {
		l = append(l, api.Pack{Ref: r, Needs: p.Needs, Leaves: p.Leaves})
	}
	for _, n := range [][]api.Need{nil, needs("b"), needs("c"), {need("c", ">=1")}, {need("b", ">=1.0")}, {need("b", ">1")}, {need("b", ">=1||>=1")}, {need("b", ">=1,>=1")}, {need("b", ">=1"), need("b", ">=1")}, {need("b", ">=1"), need("c", ">=1")}, {need("c", ">=1"), need("b", ">=1")}, {{Name: "b"}}, {{}}} {
		l = append(l, api.Pack{Ref: p.Ref, Needs: n, Leaves: p.Leaves})
	}
	for _, n := range [][]api.Leaf{nil, leaves("/bin/"), leaves("/bin/a=\x07"), leaves("/bin/", "/bin/b=\x07"), leaves("/bim/", "/bin/a=\x07"), leaves("/bin/", "/bin/a=\x08"), leaves("/bin/", "/bin/a"), leaves("/bin/", "/bin/a=\x07\x00"), {{Path: "/bin", Dir: true}, {Path: "/bin/a", Dir: true, Data: "\x07"}}, leaves("/bin", "/bin/a=\x07"), leaves("/bin/a=\x07", "/bin/"), leaves("/bin/", "/bin/a=\x07", "/c"), {{}}, {{}, {}}} {
		l = append(l, api.Pack{Ref: p.Ref, Needs: p.Needs, Leaves: n})
	}
	return append(l, greatest())
}

// P9.1: Same.
func TestSame(t *testing.T) {
	all := different()
	for n, a := range all {
		for k, b := range all {
			if got := pack.Same(a, deepCopy(b)); got != (n == k) {
				t.Errorf("Same(%.200v, %.200v): %v", a, b, got)
			}
		}
	}
	for _, p := range append(good(), bad()...) {
		if !pack.Same(p, deepCopy(p)) || !pack.Same(deepCopy(p), p) {
			t.Errorf("Same(%.300v): false", p)
		}
	}
}

// P9.1: nil lists and empty ones are one.
func TestSameNil(t *testing.T) {
	without := api.Pack{Ref: ref("a", "1")}
	for _, empty := range []api.Pack{{Ref: without.Ref, Needs: []api.Need{}}, {Ref: without.Ref, Leaves: []api.Leaf{}}, {Ref: without.Ref, Needs: make([]api.Need, 0, 4), Leaves: make([]api.Leaf, 0, 4)}} {
		if !pack.Same(without, empty) || !pack.Same(empty, without) || pack.Check(empty) != api.OK {
			t.Errorf("Same(%v): false", empty)
		}
		a, _ := pack.Encode(without)
		if b, e := pack.Encode(empty); a != b || e != api.OK {
			t.Errorf("Encode(%v): %q %d", empty, b, e)
		}
	}
	a, b := needs("b"), needs("b")
	a[0].Span.Rows[0], b[0].Span.Rows[0] = nil, []api.Bound{}
	if !pack.Same(api.Pack{Needs: a}, api.Pack{Needs: b}) {
		t.Error("Same of a nil row, and an empty one: false")
	}
	a[0].Span.Rows, b[0].Span.Rows = nil, [][]api.Bound{}
	if !pack.Same(api.Pack{Needs: a}, api.Pack{Needs: b}) {
		t.Error("Same of nil rows, and empty ones: false")
	}
}

// P9.2: Compare.
func TestCompare(t *testing.T) {
	rising := []api.Ref{
		{Version: v("1")}, ref("\x00", "1"), ref("-", "9"), ref("A", "1"),
		{Name: "a", Version: api.Version{Many: 9}}, ref("a", "0"), ref("a", "1-rc1"), ref("a", "1-rc2"), ref("a", "1-rc10"), ref("a", "1"), ref("a", "1.0"), ref("a", "1.2"), ref("a", "1.10"), ref("a", "9999"),
		ref("a\x00", "1"), ref("a-b", "1"), ref("a.b", "0"), ref("a0", "0"), ref("aa", "0"), ref("ab", "0"), ref("b", "0"), {Name: "c"}, ref("c", "1"), ref("é", "1"), ref("\xff", "1"),
	}
	for n, a := range rising {
		for k, b := range rising {
			want := 0
			if n < k {
				want = -1
			} else if n > k {
				want = 1
			}
			if got := pack.Compare(a, b); got != want {
				t.Errorf("Compare(%v, %v): %d", a, b, got)
			}
		}
	}
	for _, a := range badVersions() {
		for _, b := range badVersions() {
			if got := pack.Compare(api.Ref{Name: "a", Version: a}, api.Ref{Name: "a", Version: b}); got != 0 {
				t.Errorf("Compare of the versions %v and %v: %d", a, b, got)
			}
		}
	}
}

// P9.2: Find.
func TestFind(t *testing.T) {
	for _, l := range append(goodLeaves(), leaves("/b", "/a", "/c/"), []api.Leaf{{Path: "", Data: "1"}, {Path: "zz"}}, []api.Leaf{{Path: "/", Data: "1"}}) {
		for _, leaf := range l {
			if got, is := pack.Find(l, leaf.Path); got != leaf || !is {
				t.Errorf("Find(%v, %q): %v %v", l, leaf.Path, got, is)
			}
			for _, p := range []string{leaf.Path + "/", leaf.Path + "x", leaf.Path + "/x", "/x" + leaf.Path, "x" + leaf.Path, " " + leaf.Path} {
				if got, is := pack.Find(l, p); got != (api.Leaf{}) || is {
					t.Errorf("Find(%v, %q): %v %v", l, p, got, is)
				}
			}
		}
	}
	for _, l := range goodLeaves() {
		for _, p := range []string{"", "/", "a", "/q", "/a/q", "/bin/", "\xff", long(1 << 16)} {
			if got, is := pack.Find(l, p); got != (api.Leaf{}) || is {
				t.Errorf("Find(%v, %q): %v %v", l, p, got, is)
			}
		}
	}
	// The first one of several.
	if got, is := pack.Find(leaves("/b", "/a=1", "/a=2", "/a/"), "/a"); got.Data != "1" || got.Dir || !is {
		t.Errorf("Find of several: %v %v", got, is)
	}
}

// tell says parts, a number or a text each, as a row.
func tell(parts ...any) string {
	row := ""
	for _, p := range parts {
		switch x := p.(type) {
		case string:
			row += fmt.Sprintf("%d:%s", len(x), x)
		default:
			row += fmt.Sprintf("%d;", x)
		}
	}
	return row
}

// partsOf are the parts of a pack's row.
func partsOf(p api.Pack) []any {
	text, _ := version.Text(p.Ref.Version)
	parts := []any{p.Ref.Name, text, len(p.Needs)}
	for _, n := range p.Needs {
		text, _ := span.Text(n.Span)
		parts = append(parts, n.Name, text)
	}
	parts = append(parts, len(p.Leaves))
	for _, leaf := range p.Leaves {
		dir := 0
		if leaf.Dir {
			dir = 1
		}
		parts = append(parts, leaf.Path, dir, leaf.Data)
	}
	return parts
}

// sealed is a row with the text of its sum ahead.
func sealed(row string) string {
	return fmt.Sprintf("%x", sha256.Sum256([]byte(row))) + row
}

// decodes decodes, and tells what is otherwise than it has to be.
func decodes(t *testing.T, s string, want api.Pack, wantE api.Errno) {
	t.Helper()
	p, e := pack.Decode(s)
	if e != wantE || !alike(p, want) {
		t.Errorf("Decode(%.300q): %.300v %d, not %.300v %d", s, p, e, want, wantE)
	}
}

// P9.3, P9.4: Encode, and Decode of that, of what may be.
func TestEncodeGood(t *testing.T) {
	for _, p := range good() {
		want := sealed(tell(partsOf(p)...))
		s, e := pack.Encode(p)
		if s != want || e != api.OK || len(s) > api.MaxPack {
			t.Errorf("Encode(%v): %q %d", p, s, e)
		}
		decodes(t, want, p, api.OK)
	}
}

// P9.3: what may not be has no archive, and what would be its archive is none.
func TestEncodeBad(t *testing.T) {
	for _, p := range bad() {
		if s, e := pack.Encode(p); s != "" || e != api.ErrPack {
			t.Errorf("Encode(%.300v): %q %d", p, s, e)
		}
		decodes(t, sealed(tell(partsOf(p)...)), api.Pack{}, api.ErrPack)
	}
}

// P9.3: the greatest pack, of which no part may be greater.
func TestGreatest(t *testing.T) {
	p := greatest()
	s, e := pack.Encode(p)
	if e != api.OK || len(s) != 6423 {
		t.Errorf("Encode: %d bytes, %d", len(s), e)
	}
	decodes(t, s, p, api.OK)
	more := []api.Pack{greatest(), greatest(), greatest(), greatest(), greatest(), greatest(), greatest()}
	more[0].Ref.Name += "x"
	more[1].Ref.Version.Numbers[3]++
	more[2].Needs[3].Name += "x"
	more[3].Leaves[15].Data += "x"
	more[4].Leaves[15].Path += "x"
	more[5].Leaves = append(more[5].Leaves, leaves("/z")...)
	more[6].Needs = append(more[6].Needs, needs("z")...)
	for n, p := range more {
		if s, e := pack.Encode(p); s != "" || e != api.ErrPack {
			t.Errorf("Encode of a greater one, %d: %.100q %d", n, s, e)
		}
	}
}

// P9.3: fewer than 64 bytes, ahead of all else.
func TestDecodeShort(t *testing.T) {
	s, _ := pack.Encode(small())
	for n := range 64 {
		for _, c := range []string{s[:n], s[64:][:min(n, len(s)-64)], long(n), strings.Repeat("0", n), strings.Repeat("\x00", n), sealed("")[:n]} {
			decodes(t, c, api.Pack{}, api.ErrShort)
		}
	}
}

// P9.3, P9.4: what is not the text of the row's sum, ahead of what the row is.
func TestDecodeDigest(t *testing.T) {
	s, _ := pack.Encode(small())
	o, _ := pack.Encode(greatest())
	sum, row := s[:64], s[64:]
	all := []string{
		long(64), strings.Repeat("0", 64), strings.Repeat("\x00", 64), sum, sealed("x")[:64], sealed("")[:63] + "x", sealed("") + "x", sealed("") + "\x00",
		o[:64] + row, sum + o[64:], strings.ToUpper(sum) + row, sum[1:] + row, sum + sum, sum + s, "0" + s, s + "x", s + "\x00", s + "0;", s[:len(s)-1], " " + s, s + "\n", row + sum, row + row, row + row + row, strings.Repeat(row, 9),
		"0x" + sum[2:] + row, sealed(sum)[:64] + row, sealed(s)[:64] + row, sum + "x", sum + "0;", sealed(row + " ")[:64] + row,
	}
	for n := range s {
		for _, c := range []byte{s[n] ^ 1, s[n] ^ 0x20, s[n] + 1, 0, 'g', 0xff} {
			if c != s[n] {
				all = append(all, s[:n]+string([]byte{c})+s[n+1:])
			}
		}
		if n >= 64 {
			all = append(all, s[:n], s[:n]+s[n+1:])
		}
	}
	for _, c := range all {
		decodes(t, c, api.Pack{}, api.ErrDigest)
	}
}

// P9.3: with its sum ahead, what is no pack's row.
func TestDecodeRow(t *testing.T) {
	p := small()
	fine := tell(partsOf(p)...)
	all := []string{"", "x", "0;", "0:", ";", ":", fine + fine, "0;" + fine, "0:" + fine, " " + fine}
	for _, more := range []string{"0;", "1;", "0:", "1:x", "x", " ", "\n", "\x00", ";", ":", "1", tell("/c", 0, ""), tell("c", "*")} {
		all = append(all, fine+more, tell("a", "1", 0, 0)+more)
	}
	for n := range fine {
		all = append(all, fine[:n])
	}
	for n := range partsOf(p) {
		left := slices.Delete(partsOf(p), n, n+1)
		twice := slices.Insert(partsOf(p), n, partsOf(p)[n])
		all = append(all, tell(left...), tell(twice...))
	}
	for _, row := range all {
		decodes(t, sealed(row), api.Pack{}, api.ErrPack)
	}
}

// P9.3: numbers and texts in another form than a row's.
func TestDecodeForm(t *testing.T) {
	decodes(t, sealed("1:a1:11;1:b1:*1;2:/c0;0:"), api.Pack{Ref: ref("a", "1"), Needs: needs("b"), Leaves: leaves("/c")}, api.OK)
	decodes(t, sealed("1:a1:10;1;2:/c1;0:"), api.Pack{Ref: ref("a", "1"), Leaves: leaves("/c/")}, api.OK)
	decodes(t, sealed("1:a1:10;0;"), api.Pack{Ref: ref("a", "1")}, api.OK)
	for _, row := range []string{
		"01:a1:11;1:b1:*1;2:/c0;0:", "1:a01:11;1:b1:*1;2:/c0;0:", "1:a1:101;1:b1:*1;2:/c0;0:", "1:a1:11;01:b1:*1;2:/c0;0:", "1:a1:11;1:b1:*01;2:/c0;0:", "1:a1:11;1:b1:*1;2:/c00;0:", "1:a1:11;1:b1:*1;2:/c0;00:", "1:a1:11;1:b1:*1;2:/c01;0:",
		"1:a1:1+1;1:b1:*1;2:/c0;0:", "1:a1:1 1;1:b1:*1;2:/c0;0:", "1:a1:11 ;1:b1:*1;2:/c0;0:", "1:a1:11.;1:b1:*1;2:/c0;0:", "1:a1:1-1;1:b1:*1;2:/c0;0:", "1:a1:1;1:b1:*1;2:/c0;0:", "1:a1:11:1:b1:*1;2:/c0;0:", "1:a1:10x1;1:b1:*1;2:/c0;0:",
		"1:a1:118446744073709551617;1:b1:*1;2:/c0;0:", "1:a1:11;1:b1:*18446744073709551617;2:/c0;0:", "1:a1:14294967297;1:b1:*1;2:/c0;0:", "1:a1:11;1:b1:*4294967297;2:/c0;0:", "1:a1:11;1:b1:*1;2:/c4294967296;0:", "1:a1:11;1:b1:*1;2:/c18446744073709551616;0:",
		// Texts in the places of numbers, and numbers in those of texts.
		"1:a1:11:11:b1:*1;2:/c0;0:", "1:a1:11;1:b1:*1:12:/c0;0:", "1:a1:11;1:b1:*1;2:/c1:00:", "1:a1:11;1:b1:*1;2:/c1:10:", "1:a1:11;1:b1:*1;2:/c0:0:", "1:a1:10:0:", "1;1:11;1:b1:*1;2:/c0;0:", "1:a1;1;1:b1:*1;2:/c0;0:", "1:a1:11;1;1:*1;2:/c0;0:", "1:a1:11;1:b1;1;2:/c0;0:", "1:a1:11;1:b1:*1;1;0;0:", "1:a1:11;1:b1:*1;2:/c0;0;",
		// Counts that are not how many there are.
		"1:a1:10;1:b1:*1;2:/c0;0:", "1:a1:12;1:b1:*1;2:/c0;0:", "1:a1:11;1:b1:*0;2:/c0;0:", "1:a1:11;1:b1:*2;2:/c0;0:", "1:a1:19223372036854775808;", "1:a1:118446744073709551615;0;", "1:a1:10;18446744073709551615;", "1:a1:10;9223372036854775808;", "1:a1:15;0;", "1:a1:10;17;", "1:a1:10;1;", "1:a1:11;0;", "1:a1:14;0;", "1:a1:10;16;",
		// Dir that is neither 0 nor 1.
		"1:a1:10;1;2:/c2;0:", "1:a1:10;1;2:/c3;0:", "1:a1:10;1;2:/c10;0:", "1:a1:10;1;2:/c256;0:", "1:a1:10;1;2:/c257;0:", "1:a1:10;1;2:/c18446744073709551615;0:", "1:a1:10;1;2:/c9223372036854775809;0:", "1:a1:10;1;2:/c1;1:x",
	} {
		decodes(t, sealed(row), api.Pack{}, api.ErrPack)
	}
}

// P9.3: texts that are no version's, and no span's.
func TestDecodeTexts(t *testing.T) {
	for _, text := range []string{"", " ", "x", "1.", ".1", "01", "1.02", "1..2", "1.2.3.4.5", "10000", "-1", "+1", "1 ", " 1", "1-", "1-rc0", "1-RC", "1-rc1000", "1-abcdefg", "1\n", "1\x00", "1;", "v1", "*", "=1", long(1000)} {
		decodes(t, sealed(tell("a", text, 0, 0)), api.Pack{}, api.ErrPack)
	}
	for _, text := range []string{"", " ", "x", "1.2", "=", ">=", ">=1,", ",>=1", "=1,,=2", "=1||", "||=1", "=1|=2", "*,=1", "**", "=01", "=1 ", " =1", "=1, =2", "==1", "1.2-rc.*", "1.2.*.*", "=1,=1,=1,=1,=1", "*||*||*||*||*", "*\x00", long(1000)} {
		decodes(t, sealed(tell("a", "1", 1, "b", text, 0)), api.Pack{}, api.ErrPack)
		decodes(t, sealed(tell("a", "1", 2, "b", "*", "c", text, 0)), api.Pack{}, api.ErrPack)
	}
}

// The chapter's examples, row by row.
func TestExamples(t *testing.T) {
	s, e := pack.Encode(small())
	if e != api.OK || s[64:] != "1:a3:1.21;1:b3:>=12;4:/bin1;0:6:/bin/a0;1:\x07" {
		t.Errorf("Encode: %q %d", s, e)
	}
	decodes(t, s[:63], api.Pack{}, api.ErrShort)
	decodes(t, "x"+s[1:], api.Pack{}, api.ErrDigest)
	decodes(t, s+"x", api.Pack{}, api.ErrDigest)
	away, own, root := small(), small(), small()
	away.Leaves = away.Leaves[1:]
	own.Needs = needs("a")
	root.Leaves[0].Path = "/"
	for _, p := range []api.Pack{away, own, root, {Ref: ref("a", "1.2"), Leaves: []api.Leaf{{Path: "/", Dir: true}}}} {
		if e := pack.Check(p); e != api.ErrPack {
			t.Errorf("Check(%v): %d", p, e)
		}
	}
	if got := pack.Compare(ref("a", "1.2"), ref("a", "1.10")); got != -1 {
		t.Errorf("Compare(a 1.2, a 1.10): %d", got)
	}
	if got := pack.Compare(ref("a-b", "1"), ref("a", "2")); got != 1 {
		t.Errorf("Compare(a-b 1, a 2): %d", got)
	}
	if got, is := pack.Find(small().Leaves, "/bin/a"); got != (api.Leaf{Path: "/bin/a", Data: "\x07"}) || !is {
		t.Errorf("Find(/bin/a): %v %v", got, is)
	}
}
