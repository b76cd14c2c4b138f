package note_test

import (
	"crypto/sha256"
	"fmt"
	"math"
	"slices"
	"strings"
	"testing"

	"puncheon/api"
	"puncheon/note"
	"puncheon/span"
	"puncheon/version"
)

// v is the version of a text that is known to be one's.
func v(text string) api.Version {
	x, e := version.Read(text)
	if e != api.OK {
		panic(text)
	}
	return x
}

// ref is the ref of this name and of the version of this text.
func ref(name, text string) api.Ref {
	return api.Ref{Name: name, Version: v(text)}
}

// needs reads needs: a name, a blank, and a span's text; of a name alone any version will do.
func needs(said ...string) []api.Need {
	var l []api.Need
	for _, one := range said {
		name, text, is := strings.Cut(one, " ")
		if !is {
			text = "*"
		}
		s, e := span.Read(text)
		if e != api.OK {
			panic(text)
		}
		l = append(l, api.Need{Name: name, Span: s})
	}
	return l
}

// leaves reads leaves: a path that ends in a slash is a directory's, behind an = stand a file's bytes.
func leaves(said ...string) []api.Leaf {
	var l []api.Leaf
	for _, s := range said {
		p, data, _ := strings.Cut(s, "=")
		leaf := api.Leaf{Path: p, Data: data}
		if len(p) > 1 && strings.HasSuffix(p, "/") {
			leaf.Path, leaf.Dir = strings.TrimSuffix(p, "/"), true
		}
		l = append(l, leaf)
	}
	return l
}

// sum is the sum of a text's bytes, by the library.
func sum(s string) api.Digest {
	return sha256.Sum256([]byte(s))
}

// marksOf are the marks of leaves, without the package that is tried.
func marksOf(l []api.Leaf) []api.Mark {
	var marks []api.Mark
	for _, leaf := range l {
		m := api.Mark{Path: leaf.Path, Dir: leaf.Dir, Sum: sum(leaf.Data)}
		if leaf.Dir {
			m.Sum = api.Digest{}
		}
		marks = append(marks, m)
	}
	return marks
}

// marks are those of leaves that are said so.
func marks(said ...string) []api.Mark {
	return marksOf(leaves(said...))
}

// long is a text of n bytes.
func long(n int) string {
	return strings.Repeat("x", n)
}

// numbered are so many texts that rise, with this ahead of each.
func numbered(many int, ahead string) []string {
	var l []string
	for n := range many {
		l = append(l, fmt.Sprintf("%s%03d", ahead, n))
	}
	return l
}

// small is the chapter's pack.
func small() api.Pack {
	return api.Pack{Ref: ref("b", "1.2"), Needs: needs("a >=1"), Leaves: leaves("/x/", "/x/f")}
}

// receipt is that of a pack, and of an archive's sum, without the package that is tried.
func receipt(p api.Pack, from api.Digest) api.Receipt {
	return api.Receipt{Ref: p.Ref, Digest: from, Needs: p.Needs, Marks: marksOf(p.Leaves)}
}

// known is the chapter's receipt.
func known() api.Receipt {
	return receipt(small(), sum("archive"))
}

// greatest is a pack of which no part may be greater.
func greatest() api.Pack {
	at := "9999.9999.9999.9999-zzzzzz999"
	row := strings.Join(slices.Repeat([]string{">=" + at}, api.MaxBounds), ",")
	text := " " + strings.Join(slices.Repeat([]string{row}, api.MaxChoices), "||")
	p := api.Pack{Ref: ref(long(api.MaxName), at), Leaves: leaves("/" + long(29) + "/")}
	for _, name := range numbered(api.MaxNeeds, long(29)) {
		p.Needs = append(p.Needs, needs(name+text)...)
	}
	for _, name := range numbered(api.MaxLeaves-1, "/"+long(29)+"/"+long(26)) {
		p.Leaves = append(p.Leaves, api.Leaf{Path: name, Data: strings.Repeat("\xff", api.MaxLeaf)})
	}
	return p
}

// goodPacks may be.
func goodPacks() []api.Pack {
	l := []api.Pack{small(), greatest(), {Ref: ref("a", "0")}, {Ref: ref("a.b_c+d-e", "9999.0.0.1-rc9"), Needs: []api.Need{}, Leaves: []api.Leaf{}}}
	for _, n := range [][]api.Need{needs("a"), needs("a", "c", "d", "e"), needs("a =1", "a-b !=1-rc1"), needs("a >=1.2,<2||3.1.*||*"), needs("a *||*||*||*", "c =1,=1,=1,=1")} {
		l = append(l, api.Pack{Ref: ref("b", "1"), Needs: n}, api.Pack{Ref: ref("b", "2-rc"), Needs: n, Leaves: leaves("/f=1")})
	}
	for _, f := range [][]api.Leaf{
		leaves("/a"), leaves("/a/"), leaves("/a", "/b=1", "/c=1"), leaves("/a/", "/a/b", "/a-b", "/a.b/", "/a.b/c=\x00"), leaves("/a/", "/a/b/", "/a/b/c/", "/a/b/c/d=1"), leaves(numbered(16, "/")...), leaves("/" + long(32)), leaves("/a=" + long(200)),
	} {
		l = append(l, api.Pack{Ref: ref("b", "1.0"), Leaves: f}, api.Pack{Ref: ref("b", "1.2.3.4"), Needs: needs("c"), Leaves: f})
	}
	return l
}

// good are receipts that may be.
func good() []api.Receipt {
	var l []api.Receipt
	for n, p := range goodPacks() {
		l = append(l, receipt(p, sum(fmt.Sprint(n))))
	}
	odd := receipt(small(), api.Digest{})
	odd.Marks[1].Sum = api.Digest{}
	free := receipt(small(), api.Digest{31: 1})
	free.Marks[1].Sum = api.Digest{0: 255, 31: 255}
	return append(l, odd, free)
}

// badRefs are none that a pack may have.
func badRefs() []api.Ref {
	l := []api.Ref{{}, {Name: "b"}, {Version: v("1")}, {Name: "b", Version: api.Version{Many: 5}}, {Name: "b", Version: api.Version{Many: 1, Step: 1}}, {Name: "b", Version: api.Version{Many: 1, Tag: "A"}}, {Name: "b", Version: api.Version{Many: math.MinInt}}}
	for _, name := range []string{".", "..", "B", "b c", " ", "b/c", "/b", "b\n", "é", "\xff", long(33)} {
		l = append(l, ref(name, "1"))
	}
	return l
}

// badNeeds are none that the pack b may have.
func badNeeds() [][]api.Need {
	is := api.Bound{Kind: api.BdIs, Version: v("1")}
	l := [][]api.Need{needs("b"), needs("a", "b"), needs("b", "c"), needs("a", "a"), needs("c", "a"), needs("a", "d", "c"), needs("a", "c", "d", "e", "f"), needs("A"), needs(".."), needs(long(33)), needs(""), {{}}, {{Name: "a"}}, needs(numbered(1000, "a")...)}
	for _, s := range []api.Span{{Rows: [][]api.Bound{}}, {Rows: make([][]api.Bound, 5)}, {Rows: [][]api.Bound{{is, is, is, is, is}}}, {Rows: [][]api.Bound{{{Kind: 8, Version: v("1")}}}}, {Rows: [][]api.Bound{{is, {}}}}, {Rows: [][]api.Bound{{{Kind: api.BdLike, Version: v("1-a")}}}}} {
		l = append(l, []api.Need{{Name: "a", Span: s}}, append(needs("a"), api.Need{Name: "c", Span: s}))
	}
	return l
}

// badMarks are no receipt's.
func badMarks() [][]api.Mark {
	l := [][]api.Mark{
		// More than there may be; by no rising paths; two of one path.
		marks(numbered(17, "/")...), marks(numbered(1000, "/")...), marks("/b", "/a"), marks("/a/", "/a-b", "/a/b"), marks("/a/", "/a/c", "/a/b"), marks("/x/", "/x/f", "/w"), marks("/a", "/a"), marks("/a/", "/a/"), marks("/a", "/a/"), marks("/a/", "/a"), marks("/a=1", "/a=2"), marks("/a", "/b", "/b"),
		// Above which there is none, or a file.
		marks("/a/b"), marks("/a/b/"), marks("/a/", "/b/c"), marks("/a/", "/a/b/c"), marks("/a", "/a/b"), marks("/a=1", "/a/b/"), marks("/a/", "/a/b", "/a/b/c"), marks("/a/b", "/a/"),
		// No paths, / , too long ones.
		{{}}, {{Dir: true}}, marks("/"), {{Path: "/", Dir: true}}, {{Path: "/", Dir: true}, {Path: "/a", Dir: true}}, marks("a"), marks("a/"), marks("/a//"), marks("/A"), marks("/a b"), marks("/.."), marks("/a\n"), marks("/\xff"), marks("/" + long(33)), marks("/"+long(29)+"/", "/"+long(29)+"/"+long(30)), marks("/"+long(29)+"/", "/"+long(29)+"/"+long(30)+"/"), marks(strings.Repeat("/a", 41)),
	}
	// A directory that has a sum.
	for _, d := range []api.Digest{sum(""), {0: 1}, {31: 1}, {16: 128}} {
		l = append(l, []api.Mark{{Path: "/a", Dir: true, Sum: d}}, append(marks("/a/", "/a/b"), api.Mark{Path: "/c", Dir: true, Sum: d}), append([]api.Mark{{Path: "/a", Dir: true, Sum: d}}, marks("/a/b", "/c/")...))
	}
	return l
}

// bad are receipts that may not be, each by one of its parts.
func bad() []api.Receipt {
	l := []api.Receipt{{}}
	for _, r := range badRefs() {
		l = append(l, api.Receipt{Ref: r}, api.Receipt{Ref: r, Digest: sum(""), Needs: known().Needs, Marks: known().Marks})
	}
	for _, n := range badNeeds() {
		l = append(l, api.Receipt{Ref: ref("b", "1"), Needs: n}, api.Receipt{Ref: ref("b", "1"), Needs: n, Marks: known().Marks})
	}
	for _, m := range badMarks() {
		l = append(l, api.Receipt{Ref: ref("b", "1"), Marks: m}, api.Receipt{Ref: ref("b", "1"), Needs: known().Needs, Marks: m})
	}
	return l
}

// said is all that stands in a receipt.
func said(r api.Receipt) string {
	var say strings.Builder
	fmt.Fprintf(&say, "%q %v %x", r.Ref.Name, r.Ref.Version, r.Digest)
	for _, n := range r.Needs {
		fmt.Fprintf(&say, "\nneed %q %d", n.Name, len(n.Span.Rows))
		for _, row := range n.Span.Rows {
			fmt.Fprintf(&say, " row %d %v", len(row), row)
		}
	}
	for _, m := range r.Marks {
		fmt.Fprintf(&say, "\nmark %q %v %x", m.Path, m.Dir, m.Sum)
	}
	return say.String()
}

// alike tells whether two receipts are the same, without the package that is tried.
func alike(a, b api.Receipt) bool {
	return said(a) == said(b)
}

// tell is the text of a receipt, without the package that is tried.
func tell(r api.Receipt) string {
	at, _ := version.Text(r.Ref.Version)
	s := fmt.Sprintf("keg %s %s\nfrom %x\n", r.Ref.Name, at, r.Digest)
	for _, n := range r.Needs {
		text, _ := span.Text(n.Span)
		s += fmt.Sprintf("needs %s %s\n", n.Name, text)
	}
	for _, m := range r.Marks {
		if m.Dir {
			s += fmt.Sprintf("dir %s\n", m.Path)
		} else {
			s += fmt.Sprintf("file %x %s\n", m.Sum, m.Path)
		}
	}
	return s
}

// P10.1: Check.
func TestCheck(t *testing.T) {
	for _, r := range good() {
		if e := note.Check(r); e != api.OK {
			t.Errorf("Check(%v): %d", r, e)
		}
	}
	for _, r := range bad() {
		if e := note.Check(r); e != api.ErrNote {
			t.Errorf("Check(%.300v): %d", r, e)
		}
	}
}

// different are receipts of which each two differ, from the chapter's one in one part alone: some may not be.
func different() []api.Receipt {
	l := []api.Receipt{known(), {}, {Ref: known().Ref}, {Digest: known().Digest}, receipt(greatest(), sum(""))}
	for _, change := range []func(*api.Receipt){
		func(r *api.Receipt) { r.Ref.Name = "c" }, func(r *api.Receipt) { r.Ref.Name = "" }, func(r *api.Receipt) { r.Ref.Version = v("1.20") }, func(r *api.Receipt) { r.Ref.Version = v("1.2.0") }, func(r *api.Receipt) { r.Ref.Version = v("1.2-a") }, func(r *api.Receipt) { r.Ref.Version = v("1.2-a1") }, func(r *api.Receipt) { r.Ref.Version.Many = 9 },
		func(r *api.Receipt) { r.Digest = api.Digest{} }, func(r *api.Receipt) { r.Digest[0]++ }, func(r *api.Receipt) { r.Digest[31]++ },
		func(r *api.Receipt) { r.Needs = nil }, func(r *api.Receipt) { r.Needs = needs("c >=1") }, func(r *api.Receipt) { r.Needs = needs("a >1") }, func(r *api.Receipt) { r.Needs = needs("a >=1.0") }, func(r *api.Receipt) { r.Needs = needs("a *") }, func(r *api.Receipt) { r.Needs = needs("a >=1,>=1") }, func(r *api.Receipt) { r.Needs = needs("a >=1||>=1") }, func(r *api.Receipt) { r.Needs = needs("a >=1", "c >=1") }, func(r *api.Receipt) { r.Needs = needs("c >=1", "a >=1") }, func(r *api.Receipt) { r.Needs = needs("a >=1", "a >=1") }, func(r *api.Receipt) { r.Needs[0].Span.Rows = nil },
		func(r *api.Receipt) { r.Marks = nil }, func(r *api.Receipt) { r.Marks = r.Marks[:1] }, func(r *api.Receipt) { r.Marks = r.Marks[1:] }, func(r *api.Receipt) { r.Marks = marks("/x/", "/x/f", "/x/g") }, func(r *api.Receipt) { r.Marks = marks("/x/", "/x/g") }, func(r *api.Receipt) { r.Marks = marks("/y/", "/x/f") }, func(r *api.Receipt) { r.Marks = marks("/x/", "/x/f/") }, func(r *api.Receipt) { r.Marks = marks("/x/", "/x/f=1") },
		func(r *api.Receipt) { r.Marks[0].Dir = false }, func(r *api.Receipt) { r.Marks[0].Sum[5] = 1 }, func(r *api.Receipt) { r.Marks[1].Dir = true }, func(r *api.Receipt) { r.Marks[1].Sum[0]++ }, func(r *api.Receipt) { r.Marks[1].Sum[31]++ }, func(r *api.Receipt) { r.Marks[1].Sum = api.Digest{} }, func(r *api.Receipt) { r.Marks[1].Path = "" }, func(r *api.Receipt) { slices.Reverse(r.Marks) },
	} {
		r := known()
		change(&r)
		l = append(l, r)
	}
	return l
}

// P10.1: Same.
func TestSame(t *testing.T) {
	all := different()
	for n, a := range all {
		for k, b := range all {
			if got := note.Same(a, deepCopy(b)); got != (n == k) {
				t.Errorf("Same(%.200v, %.200v): %v", a, b, got)
			}
		}
	}
	for _, r := range append(good(), bad()...) {
		if !note.Same(r, deepCopy(r)) || !note.Same(deepCopy(r), r) {
			t.Errorf("Same(%.300v): false", r)
		}
	}
}

// P10.1: nil lists and empty ones are one.
func TestNil(t *testing.T) {
	without := api.Receipt{Ref: ref("a", "1")}
	for _, empty := range []api.Receipt{{Ref: without.Ref, Needs: []api.Need{}}, {Ref: without.Ref, Marks: []api.Mark{}}, {Ref: without.Ref, Needs: make([]api.Need, 0, 4), Marks: make([]api.Mark, 0, 4)}} {
		if !note.Same(without, empty) || !note.Same(empty, without) || note.Check(empty) != api.OK {
			t.Errorf("Same(%v): false", empty)
		}
		if s, e := note.Text(empty); s != tell(without) || e != api.OK {
			t.Errorf("Text(%v): %q %d", empty, s, e)
		}
		for _, l := range [][]api.Leaf{nil, {}} {
			if d, e := note.Verify(empty, l); len(d) != 0 || e != api.OK {
				t.Errorf("Verify(%v, %v): %v %d", empty, l, d, e)
			}
		}
	}
	a, b := needs("b"), needs("b")
	a[0].Span.Rows[0], b[0].Span.Rows[0] = nil, []api.Bound{}
	if !note.Same(api.Receipt{Needs: a}, api.Receipt{Needs: b}) {
		t.Error("Same of a nil row, and an empty one: false")
	}
	a[0].Span.Rows, b[0].Span.Rows = nil, [][]api.Bound{}
	if !note.Same(api.Receipt{Needs: a}, api.Receipt{Needs: b}) {
		t.Error("Same of nil rows, and empty ones: false")
	}
	for _, p := range []api.Pack{{Ref: without.Ref}, {Ref: without.Ref, Needs: []api.Need{}, Leaves: []api.Leaf{}}} {
		if r, e := note.Of(p, api.Digest{}); !alike(r, without) || e != api.OK {
			t.Errorf("Of(%v): %v %d", p, r, e)
		}
	}
}

// P10.2: Of what may be.
func TestOf(t *testing.T) {
	for _, p := range goodPacks() {
		for _, from := range []api.Digest{{}, sum(""), sum("archive"), {31: 7}} {
			r, e := note.Of(p, from)
			if want := receipt(p, from); e != api.OK || !alike(r, want) || note.Check(r) != api.OK {
				t.Errorf("Of(%v): %v %d", p, r, e)
			}
		}
	}
}

// badPacks may not be, some by what a receipt does not have.
func badPacks() []api.Pack {
	l := []api.Pack{{Ref: ref("b", "1"), Leaves: leaves("/a=" + long(201))}, {Ref: ref("b", "1"), Leaves: []api.Leaf{{Path: "/a", Dir: true, Data: "1"}}}}
	for _, r := range bad() {
		p := api.Pack{Ref: r.Ref, Needs: r.Needs}
		for _, m := range r.Marks {
			if m.Dir && m.Sum != (api.Digest{}) {
				p.Ref = api.Ref{}
			}
			p.Leaves = append(p.Leaves, api.Leaf{Path: m.Path, Dir: m.Dir})
		}
		l = append(l, p)
	}
	return l
}

// P10.2: of a pack that may not be nothing is told.
func TestOfBad(t *testing.T) {
	for _, p := range badPacks() {
		if r, e := note.Of(p, sum("archive")); e != api.ErrPack || !alike(r, api.Receipt{}) {
			t.Errorf("Of(%.300v): %v %d", p, r, e)
		}
	}
}

// P10.3: Text.
func TestText(t *testing.T) {
	for _, r := range good() {
		if s, e := note.Text(r); s != tell(r) || e != api.OK {
			t.Errorf("Text(%v): %q %d", r, s, e)
		}
	}
	for _, r := range bad() {
		if s, e := note.Text(r); s != "" || e != api.ErrNote {
			t.Errorf("Text(%.300v): %q %d", r, s, e)
		}
	}
	s, _ := note.Text(receipt(greatest(), sum("")))
	if n := strings.Count(s, "\n"); n != 2+api.MaxNeeds+api.MaxLeaves {
		t.Errorf("%d lines: %q", n, s)
	}
}

// P10.3: Read of what is a receipt's text.
func TestRead(t *testing.T) {
	for _, r := range good() {
		got, line, e := note.Read(tell(r))
		if !alike(got, r) || line != 0 || e != api.OK {
			t.Errorf("Read(%q): %v %d %d", tell(r), got, line, e)
		}
	}
}

// wrongAt reads what is no receipt's text, by that line.
func wrongAt(t *testing.T, s string, want int) {
	t.Helper()
	r, line, e := note.Read(s)
	if !alike(r, api.Receipt{}) || line != want || e != api.ErrNote {
		t.Errorf("Read(%.300q): %.300v %d %d, not at %d", s, r, line, e, want)
	}
}

// text is that of lines, a line feed behind each.
func text(lines ...string) string {
	s := ""
	for _, line := range lines {
		s += line + "\n"
	}
	return s
}

// Lines of the chapter's text, and its sum of no bytes.
const (
	noBytes  = "e3b0c44298fc1c149afbf4c8996fb92427ae41e4649b934ca495991b7852b855"
	kegLine  = "keg b 1.2"
	fromLine = "from " + noBytes
	needLine = "needs a >=1"
	dirLine  = "dir /x"
	fileLine = "file " + noBytes + " /x/f"
)

// P10.3: what stands in no line of the table, where it is the first one.
func TestReadFirst(t *testing.T) {
	for _, bad := range []string{
		"", " ", "x", "keg", "keg ", "keg b", "keg b ", "keg 1.2", "keg  1.2", "keg b 1.2 ", "keg b 1.2 x", "keg b 1.2 1.2", " keg b 1.2", "keg  b 1.2", "keg b  1.2", "kegb 1.2", "keg b1.2", "keg\tb 1.2", "keg b\t1.2", "keg b 1.2\r", "\rkeg b 1.2", "keg b 1.2\x00", "keg\x00b 1.2",
		"Keg b 1.2", "KEG b 1.2", "kegs b 1.2", "ke b 1.2", "b 1.2", "keg 1.2 b", "keg: b 1.2", "\ufeffkeg b 1.2", "#keg b 1.2",
		"keg B 1.2", "keg . 1.2", "keg .. 1.2", "keg b/c 1.2", "keg é 1.2", "keg " + long(33) + " 1.2", "keg b: 1.2", "keg b, 1.2",
		"keg b 1.02", "keg b 01", "keg b 1.", "keg b .1", "keg b 1.2.3.4.5", "keg b 10000", "keg b v1", "keg b >=1", "keg b =1", "keg b *", "keg b -1", "keg b 1-", "keg b 1-rc0", "keg b 1-RC", "keg b 1-rc01", "keg b 1-rc1000", "keg b 1-abcdefg", "keg b x",
		fromLine, needLine, dirLine, fileLine, "dir /", "lock 1", "keg" + strings.Repeat(" ", 1000), "keg b 1.2" + strings.Repeat(" x", 1000),
	} {
		wrongAt(t, bad, 1)
		wrongAt(t, text(bad), 1)
		wrongAt(t, text(bad, bad), 1)
		wrongAt(t, text(bad, kegLine, fromLine), 1)
		wrongAt(t, text(bad, fromLine, needLine, dirLine, fileLine), 1)
	}
	wrongAt(t, "", 1)
	wrongAt(t, kegLine, 1)
	wrongAt(t, "\n\n\n", 1)
}

// P10.3: what must come behind the keg line is the from line.
func TestReadSecond(t *testing.T) {
	wrongAt(t, text(kegLine), 2)
	wrongAt(t, text("keg q 9-a"), 2)
	for _, bad := range []string{
		"", " ", "x", kegLine, "keg c 1", needLine, dirLine, "file " + noBytes + " /f", "from", "from ", " " + fromLine, fromLine + " ", "from  " + noBytes, "from " + noBytes + " " + noBytes, fromLine + " x", "from\t" + noBytes, fromLine + "\r", fromLine + "\x00", "from" + noBytes, noBytes, "From " + noBytes, "form " + noBytes, "froms " + noBytes, "from b " + noBytes,
		"from " + strings.ToUpper(noBytes), "from E" + noBytes[1:], "from " + noBytes[1:], "from " + noBytes + "0", "from 0x" + noBytes[2:], "from g" + noBytes[1:], "from " + long(64), "from 0", "from b", "from +" + noBytes[1:], "from " + noBytes[:63] + ";", "from" + strings.Repeat(" ", 65),
	} {
		wrongAt(t, kegLine+"\n"+bad, 2)
		wrongAt(t, text(kegLine, bad), 2)
		wrongAt(t, text(kegLine, bad, fromLine), 2)
		wrongAt(t, text(kegLine, bad, needLine, dirLine, fileLine), 2)
	}
	wrongAt(t, kegLine+"\n"+fromLine, 2)
}

// P10.3: behind the first two lines, what stands in no line of the table, or names what may not be there.
func TestReadThird(t *testing.T) {
	for _, bad := range []string{
		"", " ", "x", kegLine, fromLine, "keg c 1", "Needs a >=1", "need a >=1", "needs: a >=1", "Dir /x", "dirs /x", "File " + noBytes + " /f", "files " + noBytes + " /f", "link /x", "needs", "dir", "file", "/x", noBytes + " /f",
		"needs ", "needs a", "needs a ", "needs >=1", "needs  >=1", " needs a >=1", "needs  a >=1", "needs a  >=1", "needs a >=1 ", "needs a >= 1", "needs a >=1 <2", "needs a >=1, <2", "needs a c *", "needsa >=1", "needs a>=1", "needs\ta >=1", "needs a\t>=1", "needs a >=1\r", "needs a >=1\x00", "needs a" + strings.Repeat(" ", 1000),
		"needs A *", "needs . *", "needs .. *", "needs /a *", "needs é *", "needs " + long(33) + " *", "needs b *", "needs b >=1", "needs b 1.2.*", "needs >=1 a",
		"needs a 1", "needs a 1.2", "needs a >=01", "needs a >=1.", "needs a >=", "needs a =", "needs a ==1", "needs a =>1", "needs a >=1,", "needs a ,>=1", "needs a >=1||", "needs a >=1|<1", "needs a *,=1", "needs a **", "needs a 1-a.*", "needs a =1,=1,=1,=1,=1", "needs a *||*||*||*||*", "needs a =10000", "needs a =1-rc0",
		"dir ", "dir  /x", "dir /x ", " dir /x", "dir /x /y", "dir " + noBytes + " /x", "dir /x " + noBytes, "dir/x", "dir\t/x", "dir /x\r", "dir x", "dir /", "dir /x/", "dir //x", "dir /X", "dir /.", "dir /..", "dir /x\x00", "dir /é", "dir /x/y", "dir /x/f", "dir /" + long(33), "dir" + strings.Repeat(" /x", 1000),
		"file " + noBytes, "file /f", "file  /f", "file " + noBytes + " ", "file " + noBytes + "  /f", "file  " + noBytes + " /f", " file " + noBytes + " /f", "file " + noBytes + " /f ", "file " + noBytes + " /f /g", "file " + noBytes + " " + noBytes + " /f", "file /f " + noBytes, "file\t" + noBytes + " /f", "file " + noBytes + "\t/f", "file " + noBytes + " /f\r", "file" + strings.Repeat(" ", 1000),
		"file " + strings.ToUpper(noBytes) + " /f", "file " + noBytes[1:] + " /f", "file " + noBytes + "0 /f", "file g" + noBytes[1:] + " /f", "file 0 /f", "file x /f", "file - /f",
		"file " + noBytes + " f", "file " + noBytes + " /", "file " + noBytes + " /f/", "file " + noBytes + " /F", "file " + noBytes + " /..", "file " + noBytes + " /x/f", "file " + noBytes + " /" + long(33),
	} {
		wrongAt(t, text(kegLine, fromLine, bad), 3)
		wrongAt(t, text(kegLine, fromLine, bad, bad), 3)
		wrongAt(t, text(kegLine, fromLine, bad, needLine, dirLine, fileLine), 3)
		wrongAt(t, text(kegLine, fromLine, bad)+needLine, 3)
		if bad != "" {
			wrongAt(t, text(kegLine, fromLine)+bad, 3)
		}
		// Behind a need; and behind a mark, which no need stands behind.
		wrongAt(t, text(kegLine, fromLine, "needs + *", bad), 4)
		wrongAt(t, text(kegLine, fromLine, "needs + *", "dir /+", bad, bad), 5)
	}
}

// P10.3: lines of the table that stand where they may not, behind others.
func TestReadOrder(t *testing.T) {
	head := text(kegLine, fromLine)
	f := "file " + noBytes + " "
	for want, all := range map[int][]string{
		4: {
			text(needLine, needLine), text(needLine, "needs a =1"), text("needs c *", "needs a *"), text("needs a *", "needs a *", "needs a *"), text("needs a *", "needs b *"), text("needs a0 *", "needs a *"), text("needs a_ *", "needs a- *"),
			text(dirLine, dirLine), text(dirLine, f+"/x"), text(f+"/x", dirLine), text(f+"/x", f+"/x"), text("dir /b", "dir /a"), text(f+"/b", f+"/a"), text("dir /b", f+"/a"), text(f+"/b", "dir /a"), text("dir /ab", "dir /a-b"),
			text(f+"/x", f+"/x/f"), text(f+"/x", "dir /x/f"), text(dirLine, "dir /y/z"), text(dirLine, f+"/x/y/z"), text(dirLine, f+"/xy/z"),
			text(dirLine, needLine), text(f+"/x", needLine), text(needLine, kegLine), text(needLine, fromLine), text(dirLine, kegLine), text(dirLine, fromLine), text(f+"/x", fromLine, kegLine), text(dirLine, ""), text(needLine, "", dirLine),
		},
		5: {
			text(needLine, dirLine, dirLine), text(needLine, dirLine, needLine), text(needLine, dirLine, "needs c *"), text(needLine, f+"/x", fileLine), text("needs a *", "needs c *", "needs b *"), text("needs a *", "needs d *", "needs c *"), text("needs a *", "needs c *", "needs a *"),
			text(dirLine, fileLine, fileLine), text(dirLine, fileLine, dirLine), text(dirLine, fileLine, needLine), text(dirLine, fileLine, kegLine), text(dirLine, fileLine, fromLine), text(dirLine, fileLine, "dir /x/f/g"), text(dirLine, fileLine, "dir /w"), text(dirLine, fileLine, f+"/x/e"), text(dirLine, f+"/x-y", f+"/x/y"), text(dirLine, "dir /x-y", "dir /x/y"), text(dirLine, f+"/y", f+"/x/f"), text(dirLine, fileLine, ""), text(dirLine, fileLine, "", ""),
		},
	} {
		for _, behind := range all {
			wrongAt(t, head+behind, want)
			wrongAt(t, head+behind+text("dir /z"), want)
		}
	}
}

// P10.3: as many needs, and marks, as there may be, and one more.
func TestReadMany(t *testing.T) {
	many := func(word string, n int, behind string) string {
		s := ""
		for _, one := range numbered(n, word) {
			s += one + behind + "\n"
		}
		return s
	}
	head := text(kegLine, fromLine)
	for _, more := range []string{many("dir /", 16, ""), many("file "+noBytes+" /", 16, ""), many("needs ", 4, " *"), many("needs ", 4, " *") + many("dir /", 16, "")} {
		r, line, e := note.Read(head + more)
		if line != 0 || e != api.OK || tell(r) != head+more {
			t.Errorf("Read(%q): %v %d %d", head+more, r, line, e)
		}
	}
	wrongAt(t, head+many("dir /", 17, ""), 19)
	wrongAt(t, head+many("dir /", 99, ""), 19)
	wrongAt(t, head+many("file "+noBytes+" /", 17, ""), 19)
	wrongAt(t, head+many("needs ", 4, " *")+many("dir /", 17, ""), 23)
	wrongAt(t, head+many("needs ", 5, " *"), 7)
	wrongAt(t, head+many("needs ", 99, " *"), 7)
	wrongAt(t, head+many("needs ", 5, " *")+many("dir /", 17, ""), 7)
	wrongAt(t, head+many("needs ", 4, " *")+text("needs b *"), 7)
	path := "/" + long(29)
	if _, line, e := note.Read(head + text("dir "+path, "dir "+path+path)); line != 0 || e != api.OK {
		t.Errorf("Read with a path of 60 bytes: %d %d", line, e)
	}
	wrongAt(t, head+text("dir "+path, "dir "+path+path+"x"), 4)
	wrongAt(t, head+text("dir "+path, "file "+noBytes+" "+path+path+"x"), 4)
}

// P10.3: of a text that ends too early the line behind its last one is wrong, if a line must come; its last one, if it does not end.
func TestReadEnds(t *testing.T) {
	for _, r := range good() {
		whole := tell(r)
		for n := range whole {
			s := whole[:n]
			lines := strings.Count(s, "\n")
			if lines < 2 || !strings.HasSuffix(s, "\n") {
				wrongAt(t, s, lines+1)
			} else if _, line, e := note.Read(s); line != 0 || e != api.OK {
				t.Errorf("Read(%q): %d %d", s, line, e)
			}
		}
		last := strings.Count(whole, "\n") + 1
		wrongAt(t, whole+"\n", last)
		wrongAt(t, whole+"\n\n", last)
		wrongAt(t, whole+" ", last)
		wrongAt(t, whole+" \n", last)
		wrongAt(t, whole+whole, last)
		wrongAt(t, whole+"\x00", last)
		wrongAt(t, whole+kegLine, last)
		wrongAt(t, "\n"+whole, 1)
		wrongAt(t, " "+whole, 1)
		wrongAt(t, "\r\n"+whole, 1)
		wrongAt(t, strings.ReplaceAll(whole, "\n", "\r\n"), 1)
		wrongAt(t, strings.ReplaceAll(whole, "\n", "\r"), 1)
		wrongAt(t, strings.ReplaceAll(whole, "\n", "\n\n"), 2)
		wrongAt(t, strings.ReplaceAll(whole, " ", "  "), 1)
		wrongAt(t, strings.ReplaceAll(whole, " ", "\t"), 1)
		wrongAt(t, strings.ToUpper(whole), 1)
	}
}

// verifies verifies, and tells what is otherwise than it has to be.
func verifies(t *testing.T, r api.Receipt, l []api.Leaf, want ...string) {
	t.Helper()
	if d, e := note.Verify(r, l); e != api.OK || !slices.Equal(d, want) {
		t.Errorf("Verify(%v, %v): %v %d, not %v", r, l, d, e, want)
	}
}

// P10.4: leaves that are not as the receipt has them, in Data alone, in Dir alone, by one more, by one less.
func TestVerify(t *testing.T) {
	r := receipt(api.Pack{Ref: ref("b", "1"), Leaves: leaves("/a/", "/a/b=1", "/a-b=2", "/c/", "/d=")}, sum("archive"))
	verifies(t, r, leaves("/a/", "/a/b=1", "/a-b=2", "/c/", "/d="))
	verifies(t, r, nil, "/a", "/a/b", "/a-b", "/c", "/d")
	verifies(t, r, []api.Leaf{}, "/a", "/a/b", "/a-b", "/c", "/d")
	verifies(t, r, leaves("/a/", "/a/b=2", "/a-b=2", "/c/", "/d="), "/a/b")
	verifies(t, r, leaves("/a/", "/a/b=", "/a-b=2", "/c/", "/d="), "/a/b")
	verifies(t, r, leaves("/a/", "/a/b=1\x00", "/a-b=2", "/c/", "/d=\x00"), "/a/b", "/d")
	verifies(t, r, leaves("/a/", "/a/b/", "/a-b=2", "/c/", "/d="), "/a/b")
	verifies(t, r, leaves("/a/", "/a/b=1", "/a-b=2", "/c=", "/d="), "/c")
	verifies(t, r, leaves("/a/", "/a/b=1", "/a-b=2", "/c/", "/d/"), "/d")
	verifies(t, r, leaves("/a=", "/a-b=2", "/c/", "/d="), "/a", "/a/b")
	verifies(t, r, leaves("/a-b=2", "/c/", "/d="), "/a", "/a/b")
	verifies(t, r, leaves("/a/", "/a-b=2", "/c/", "/d="), "/a/b")
	verifies(t, r, leaves("/a/", "/a/b=1", "/a-b=2", "/c/"), "/d")
	verifies(t, r, leaves("/a/", "/a/b=1", "/a-b=2", "/c/", "/d=", "/e="), "/e")
	verifies(t, r, leaves("/-/", "/a/", "/a/b=1", "/a-b=2", "/c/", "/d="), "/-")
	verifies(t, r, leaves("/a/", "/a/a/", "/a/b=1", "/a/c=", "/a-b=2", "/c/", "/d="), "/a/a", "/a/c")
	// In the order of paths, not byte by byte, whichever of both has them.
	verifies(t, r, leaves("/a/", "/a/b=2", "/a-b=3", "/c/", "/d="), "/a/b", "/a-b")
	verifies(t, r, leaves("/a/", "/a/c=1", "/a-b/", "/c/", "/d="), "/a/b", "/a/c", "/a-b")
	verifies(t, r, leaves("/a/", "/a/b=1", "/a/c=", "/a-a/", "/c/", "/e=", "/z="), "/a/c", "/a-a", "/a-b", "/d", "/e", "/z")
	verifies(t, r, leaves("/b/", "/b/a=1"), "/a", "/a/b", "/a-b", "/b", "/b/a", "/c", "/d")
	// Another version, other needs, and another archive do not matter.
	r.Ref, r.Digest, r.Needs = ref("q", "9-a"), api.Digest{}, needs("b", "c")
	verifies(t, r, leaves("/a/", "/a/b=1", "/a-b=2", "/c/", "/d="))
	verifies(t, api.Receipt{Ref: ref("b", "1")}, nil)
	verifies(t, api.Receipt{Ref: ref("b", "1")}, leaves("/a/", "/b"), "/a", "/b")
	verifies(t, receipt(api.Pack{Ref: ref("b", "1"), Leaves: leaves(numbered(16, "/a")...)}, sum("")), leaves(numbered(16, "/b")...), append(numbered(16, "/a"), numbered(16, "/b")...)...)
	// A file whose mark's sum is nothing is no directory, and a directory no file of no bytes.
	r.Marks = []api.Mark{{Path: "/f"}, {Path: "/g", Dir: true}}
	verifies(t, r, leaves("/f/", "/g="), "/f", "/g")
	verifies(t, r, leaves("/f=", "/g/"), "/f")
}

// P10.4: receipts that may not be, ahead of leaves that may be no pack's.
func TestVerifyBad(t *testing.T) {
	name := "/" + long(29)
	wrong := [][]api.Leaf{
		{{}}, leaves("/"), {{Path: "/", Dir: true}}, leaves("x"), leaves("/X"), leaves("/x//"), leaves("/x/f"), leaves("/x", "/x/f"), leaves("/x", "/x"), leaves("/x/", "/x/"), leaves("/y", "/x"), leaves("/x/", "/x-y", "/x/f"), leaves(numbered(17, "/")...), leaves(numbered(1000, "/")...),
		leaves("/x=" + long(201)), {{Path: "/x", Dir: true, Data: "1"}}, leaves(name+"/", name+name+"x"), append(small().Leaves, leaves("/x/f")...),
	}
	for _, l := range wrong {
		for _, r := range good() {
			if d, e := note.Verify(r, l); len(d) != 0 || e != api.ErrPack {
				t.Errorf("Verify(%v, %.300v): %v %d", r, l, d, e)
			}
		}
	}
	for n, r := range bad() {
		for _, l := range [][]api.Leaf{nil, small().Leaves, wrong[n%len(wrong)]} {
			if d, e := note.Verify(r, l); len(d) != 0 || e != api.ErrNote {
				t.Errorf("Verify(%.300v, %.300v): %v %d", r, l, d, e)
			}
		}
	}
}

// The chapter's examples, row by row.
func TestExamples(t *testing.T) {
	r, e := note.Of(small(), sum("archive"))
	if e != api.OK || !alike(r, known()) {
		t.Errorf("Of: %v %d", r, e)
	}
	lines := []string{kegLine, fmt.Sprintf("from %x", sum("archive")), needLine, dirLine, fileLine}
	s, e := note.Text(r)
	if e != api.OK || s != text(lines...) {
		t.Errorf("Text: %q %d", s, e)
	}
	if got, line, e := note.Read(s); !alike(got, r) || line != 0 || e != api.OK {
		t.Errorf("Read: %v %d %d", got, line, e)
	}
	wrongAt(t, text(lines[1:]...), 1)
	wrongAt(t, text(slices.Insert(slices.Clone(lines), 3, dirLine)...), 5)
	wrongAt(t, text(lines[0]), 2)
	verifies(t, r, leaves("/x/"), "/x/f")
	verifies(t, r, leaves("/x/", "/x/f", "/x/g"), "/x/g")
}
