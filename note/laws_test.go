package note_test

import (
	"fmt"
	"math"
	"slices"
	"strings"
	"testing"

	"puncheon/api"
	"puncheon/note"
	"puncheon/pack"
	"puncheon/sha"
	"puncheon/span"
	"puncheon/version"
)

// plainValid tells whether r may be, without the package that is tried.
func plainValid(r api.Receipt) bool {
	p := api.Pack{Ref: r.Ref, Needs: r.Needs}
	for _, m := range r.Marks {
		if m.Dir && strings.Trim(fmt.Sprintf("%x", m.Sum), "0") != "" {
			return false
		}
		p.Leaves = append(p.Leaves, api.Leaf{Path: m.Path, Dir: m.Dir})
	}
	return pack.Check(p) == api.OK
}

// plainRead is what lines say, whatever stands in them: what they do not say is nothing.
func plainRead(lines []string) api.Receipt {
	var r api.Receipt
	for _, line := range lines {
		words := append(strings.Split(strings.TrimSuffix(line, "\n"), " "), "", "")
		switch words[0] {
		case "keg":
			r.Ref.Name = words[1]
			r.Ref.Version, _ = version.Read(words[2])
		case "from":
			r.Digest, _ = sha.Read(words[1])
		case "needs":
			s, _ := span.Read(words[2])
			r.Needs = append(r.Needs, api.Need{Name: words[1], Span: s})
		case "dir":
			r.Marks = append(r.Marks, api.Mark{Path: words[1], Dir: true})
		case "file":
			d, _ := sha.Read(words[1])
			r.Marks = append(r.Marks, api.Mark{Path: words[2], Sum: d})
		}
	}
	return r
}

// begins tells whether a receipt's text begins with these lines, without the package that is tried: what they say may be, and is said just so.
func begins(lines []string) bool {
	r := plainRead(lines)
	whole := strings.SplitAfter(tell(r), "\n")
	return plainValid(r) && slices.Equal(whole[:min(len(lines), len(whole))], lines)
}

// plainLine answers the number of the line by which s is no receipt's text, 0 if it is one's, without the package that is tried.
func plainLine(s string) int {
	lines := strings.SplitAfter(s, "\n")
	for n, line := range lines {
		switch {
		case line == "" && n < 2:
			return n + 1
		case line == "":
			return 0
		case !strings.HasSuffix(line, "\n"), !begins(lines[:n+1]):
			return n + 1
		}
	}
	return 0
}

// reads holds Read of s against the second reading, and tells whether it is a receipt's text.
func reads(t *testing.T, s string) bool {
	t.Helper()
	wantLine, want, wantE := plainLine(s), api.Receipt{}, api.ErrNote
	if wantLine == 0 {
		want, wantE = plainRead(strings.SplitAfter(s, "\n")), api.OK
	}
	r, line, e := note.Read(s)
	if !alike(r, want) || line != wantLine || e != wantE {
		t.Fatalf("Read(%q): %v %d %d, not %v %d %d", s, r, line, e, want, wantLine, wantE)
	}
	if wantLine != 0 {
		return false
	}
	if back, e := note.Text(r); back != s || e != api.OK || note.Check(r) != api.OK {
		t.Fatalf("Text of Read(%q): %q %d", s, back, e)
	}
	return true
}

// lists are all lists of at most n of these.
func lists[T any](n int, of ...T) [][]T {
	all := [][]T{nil}
	from := 0
	for range n {
		to := len(all)
		for _, l := range all[from:to] {
			for _, one := range of {
				all = append(all, append(slices.Clone(l), one))
			}
		}
		from = to
	}
	return all
}

// numbers answers a function that tells numbers below its argument, each time the same ones.
func numbers() func(below int) int {
	x := uint64(1)
	return func(below int) int {
		x = x*6364136223846793005 + 1442695040888963407
		return int((x >> 33) % uint64(below))
	}
}

// somePacks are packs that may be, of all sorts.
func somePacks(many int) []api.Pack {
	next := numbers()
	texts := []string{"*", "=1", ">=1.2,<2||3.1.*", "!=1-rc1||*", "<9999.9999.9999.9999-zzzzzz999"}
	var all []api.Pack
	for len(all) < many {
		p := api.Pack{Ref: ref(fmt.Sprint("x", next(10)), fmt.Sprint(next(100), ".", next(3)))}
		for n := range next(api.MaxNeeds + 1) {
			p.Needs = append(p.Needs, needs(fmt.Sprintf("n%d%d %s", n, next(9), texts[next(len(texts))]))...)
		}
		dirs := []string{""}
		for range next(api.MaxLeaves + 1) {
			leaf := api.Leaf{Path: dirs[next(len(dirs))] + "/" + string("ab-."[next(4)]) + string("-09az"[next(5)]), Dir: next(3) == 0}
			if leaf.Dir {
				dirs = append(dirs, leaf.Path)
			} else {
				leaf.Data = strings.Repeat(string([]byte{byte(next(256))}), next(3))
			}
			p.Leaves = append(p.Leaves, leaf)
		}
		slices.SortFunc(p.Leaves, func(a, b api.Leaf) int {
			return slices.Compare(strings.Split(a.Path, "/"), strings.Split(b.Path, "/"))
		})
		if pack.Check(p) == api.OK {
			all = append(all, p)
		}
	}
	return all
}

// mayBe holds Check of r, and Text, against the second reading, and tells whether r may be.
func mayBe(t *testing.T, r api.Receipt) bool {
	t.Helper()
	is, text, want := plainValid(r), "", api.ErrNote
	if is {
		text, want = tell(r), api.OK
	}
	if e := note.Check(r); e != want {
		t.Fatalf("Check(%v): %d", r, e)
	}
	if s, e := note.Text(r); s != text || e != want {
		t.Fatalf("Text(%v): %q %d", r, s, e)
	}
	return is
}

// P10.1, P10.3: Check, and Text, of all short lists of marks that lie close together.
func TestLawMarks(t *testing.T) {
	one := append(marks("/a/", "/a=", "/a/b/", "/a/b=1", "/a/b/c=", "/a-b=", "/a-b/", "/b=", "/"), api.Mark{Path: "/a", Dir: true, Sum: api.Digest{31: 1}}, api.Mark{Path: "/c"})
	some := 0
	for _, l := range lists(4, one...) {
		r := api.Receipt{Ref: ref("q", "1"), Marks: l}
		if mayBe(t, r) {
			some++
		}
	}
	if some < 50 {
		t.Errorf("just %d may be", some)
	}
}

// P10.1, P10.3: Check, and Text, of all short lists of needs.
func TestLawNeeds(t *testing.T) {
	some := 0
	for _, l := range lists(5, append(needs("a", "aa =1", "b", "c", "a-b"), api.Need{Name: "d"})...) {
		r := api.Receipt{Ref: ref("c", "1"), Needs: l, Marks: known().Marks}
		if mayBe(t, r) {
			some++
		}
	}
	if some < 10 {
		t.Errorf("just %d may be", some)
	}
}

// P10.2, P10.3, P10.5: of packs that may be, Read of Text is the receipt, and Text of Read the text.
func TestLawRound(t *testing.T) {
	for n, p := range append(somePacks(2000), goodPacks()...) {
		from := sum(fmt.Sprint(n))
		r, e := note.Of(p, from)
		if e != api.OK || !alike(r, receipt(p, from)) || note.Check(r) != api.OK {
			t.Fatalf("Of(%v): %v %d", p, r, e)
		}
		s, e := note.Text(r)
		if e != api.OK || s != tell(r) || !reads(t, s) {
			t.Fatalf("Text(%v): %q %d", r, s, e)
		}
		if back, line, e := note.Read(s); !note.Same(back, r) || !note.Same(r, back) || line != 0 || e != api.OK {
			t.Fatalf("Read of Text(%v): %v %d %d", r, back, line, e)
		}
	}
}

// P10.3, P10.5: all short rows of lines.
func TestLawLines(t *testing.T) {
	f := "file " + noBytes
	some := 0
	for _, l := range lists(3, kegLine, fromLine, needLine, "needs b *", dirLine, fileLine, f+" /x", "", " ", "dir /X", "x") {
		s := text(l...)
		for _, s := range []string{s, s + "x", s + kegLine, s + fromLine, strings.TrimSuffix(s, "\n")} {
			if reads(t, s) {
				some++
			}
		}
	}
	for _, l := range lists(4, needLine, "needs c *", "needs b *", "needs a *", dirLine, fileLine, f+" /x", "dir /x/f", "dir /x/f/g", f+" /x-y", "", fromLine, kegLine) {
		if reads(t, text(kegLine, fromLine)+text(l...)) {
			some++
		}
	}
	for _, l := range lists(6, needLine, "needs c =1", "needs d =1", "needs e =1", "needs f =1", dirLine) {
		if reads(t, text(kegLine, fromLine)+text(l...)) {
			some++
		}
	}
	if some < 100 {
		t.Errorf("just %d texts were some receipt's", some)
	}
}

// P10.3: all short lines of words, with blanks between them or not.
func TestLawWords(t *testing.T) {
	some := 0
	for _, l := range lists(4, " ", "b", "1", "*", "/x", noBytes, "keg", "dir") {
		for _, ahead := range []string{"", "keg", "from", "needs", "dir", "file"} {
			line := ahead + strings.Join(l, "")
			if reads(t, text(line)) {
				t.Fatalf("one line alone: %q", line)
			}
			if reads(t, text(kegLine, line)) || reads(t, text("keg q 1", fromLine, line)) {
				some++
			}
		}
	}
	if some < 4 {
		t.Errorf("just %d lines were fine", some)
	}
}

// changed are texts of which lines are left out, stand there twice, change places with others, or end early.
func changed(s string) []string {
	lines := strings.SplitAfter(s, "\n")
	lines = lines[:len(lines)-1]
	var all []string
	for n, line := range lines {
		without := slices.Delete(slices.Clone(lines), n, n+1)
		all = append(all, strings.Join(without, ""))
		for k := range lines {
			all = append(all, strings.Join(slices.Insert(slices.Clone(lines), k, line), ""), strings.Join(slices.Insert(slices.Clone(without), min(k, len(without)), line), ""))
			swapped := slices.Clone(lines)
			swapped[n], swapped[k] = swapped[k], swapped[n]
			all = append(all, strings.Join(swapped, ""))
		}
		words := strings.Split(strings.TrimSuffix(line, "\n"), " ")
		for k := range words {
			for _, other := range [][]string{slices.Delete(slices.Clone(words), k, k+1), slices.Insert(slices.Clone(words), k, words[k]), slices.Insert(slices.Clone(words), k, "")} {
				swapped := slices.Clone(lines)
				swapped[n] = strings.Join(other, " ") + "\n"
				all = append(all, strings.Join(swapped, ""))
			}
		}
	}
	return all
}

// P10.3, P10.5: texts whose lines, or words, are others.
func TestLawOtherLine(t *testing.T) {
	some := 0
	for _, p := range append(somePacks(40), small(), greatest()) {
		for _, s := range changed(tell(receipt(p, sum("1")))) {
			if reads(t, s) {
				some++
			}
		}
	}
	if some < 100 {
		t.Errorf("just %d texts were some receipt's", some)
	}
}

// P10.3, P10.5: texts of which a byte becomes another one, is left out, or stands there in addition.
func TestLawOtherByte(t *testing.T) {
	some := 0
	for _, p := range []api.Pack{small(), {Ref: ref("a", "1.0-rc1")}, {Ref: ref("q", "2"), Needs: needs("b", "c =1.2,<3||2.*"), Leaves: leaves("/a/", "/a/b=1", "/a/c/", "/a-c")}} {
		s := tell(receipt(p, sum("archive")))
		for n := range s {
			all := []string{s[:n], s[:n] + s[n+1:]}
			for _, c := range " \n/019afgzA*=.-\x00\t\r\xff" {
				x := string([]byte{byte(c)})
				all = append(all, s[:n]+x+s[n+1:], s[:n]+x+s[n:])
			}
			for _, c := range all {
				if reads(t, c) {
					some++
				}
			}
		}
	}
	if some < 100 {
		t.Errorf("just %d texts were some receipt's", some)
	}
}

// plainApart are the paths at which marks and leaves are not one, without the package that is tried.
func plainApart(r api.Receipt, l []api.Leaf) []string {
	at := map[string]string{}
	for _, m := range r.Marks {
		at[m.Path] = fmt.Sprintf("%v %x", m.Dir, m.Sum)
	}
	var paths []string
	for _, m := range marksOf(l) {
		if at[m.Path] != fmt.Sprintf("%v %x", m.Dir, m.Sum) {
			paths = append(paths, m.Path)
		}
		delete(at, m.Path)
	}
	for p := range at {
		paths = append(paths, p)
	}
	slices.SortFunc(paths, func(a, b string) int {
		return slices.Compare(strings.Split(a, "/"), strings.Split(b, "/"))
	})
	return paths
}

// P10.4, P10.5: of its own leaves nothing is told; of others just where they are not one.
func TestLawVerify(t *testing.T) {
	all := append(somePacks(150), goodPacks()...)
	for n, p := range all {
		r, _ := note.Of(p, sum(fmt.Sprint(n)))
		verifies(t, r, p.Leaves)
		for _, q := range all {
			verifies(t, r, q.Leaves, plainApart(r, q.Leaves)...)
		}
	}
}

// P10.5: with a file whose sum is another one just its path is told; and so with another leaf of that path, or with the last one away.
func TestLawVerifyOne(t *testing.T) {
	for n, p := range append(somePacks(300), goodPacks()...) {
		r, _ := note.Of(p, sum(fmt.Sprint(n)))
		for k, leaf := range p.Leaves {
			l := slices.Clone(p.Leaves)
			if !leaf.Dir {
				for _, data := range []string{leaf.Data + "x", leaf.Data + "\x00", "other", "", "\xff" + leaf.Data} {
					if l[k].Data = data; data != leaf.Data && len(data) <= api.MaxLeaf {
						verifies(t, r, l, leaf.Path)
					}
				}
				l[k] = api.Leaf{Path: leaf.Path, Dir: true}
				verifies(t, r, l, leaf.Path)
			}
			if k == len(l)-1 {
				verifies(t, r, l[:k], leaf.Path)
			}
		}
	}
}

// P10.1: Same tells receipts that may be apart just as their texts do.
func TestLawSame(t *testing.T) {
	var all []api.Receipt
	for n, p := range somePacks(150) {
		all = append(all, receipt(p, sum(fmt.Sprint(n%3))), receipt(p, api.Digest{31: byte(n % 2)}))
	}
	all = append(all, good()...)
	for _, a := range all {
		for _, b := range all {
			if got := note.Same(a, b); got != (tell(a) == tell(b)) {
				t.Fatalf("Same(%v, %v): %v", a, b, got)
			}
		}
	}
}

// answers are what all calls answer of a receipt, a pack, and both.
func answers(r api.Receipt, p api.Pack) string {
	s, e := note.Text(r)
	of, f := note.Of(p, r.Digest)
	d, g := note.Verify(r, p.Leaves)
	return fmt.Sprintf("%d %v %v %q %d %s %d %q %d", note.Check(r), note.Same(r, known()), note.Same(known(), r), s, e, said(of), f, d, g)
}

// R5: each answer is the same in whatever order, and however often, it is asked.
func TestRuleOrder(t *testing.T) {
	receipts, packs := append(good(), bad()...), append(goodPacks(), badPacks()...)
	asked := func(n int) string {
		r := receipts[n%len(receipts)]
		back, line, e := note.Read(tell(r))
		return fmt.Sprint(answers(r, packs[n%len(packs)]), said(back), line, e)
	}
	var first []string
	for n := range 2 * max(len(receipts), len(packs)) {
		first = append(first, asked(n))
	}
	for n, want := range slices.Backward(first) {
		if got := asked(n); got != want {
			t.Fatalf("%d: %s, not %s", n, got, want)
		}
	}
}

// R1: no call panics, or goes on without end, at whatever it is given.
func TestRuleEnds(t *testing.T) {
	many := make([]api.Mark, 1<<18)
	for n := range many {
		many[n] = api.Mark{Path: fmt.Sprint("/", n)}
	}
	deep := strings.Repeat("/a", 1<<18)
	wide := api.Need{Name: "a", Span: api.Span{Rows: make([][]api.Bound, 1<<18)}}
	huge := api.Receipt{Ref: api.Ref{Name: long(1 << 20), Version: api.Version{Many: math.MinInt, Tag: long(1 << 20)}}, Needs: make([]api.Need, 1<<18), Marks: many}
	all := slices.Concat(good(), bad(), different(), []api.Receipt{huge, {Ref: ref("a", "1"), Marks: many}, {Ref: ref("a", "1"), Marks: make([]api.Mark, 1<<18)}, {Ref: ref("b", "1"), Needs: []api.Need{wide}}, {Ref: ref("a", "1"), Needs: make([]api.Need, 1<<18)}, {Ref: ref("a", "1"), Marks: []api.Mark{{Path: deep}}}})
	for n, r := range all {
		p := api.Pack{Ref: r.Ref, Needs: r.Needs}
		for _, m := range r.Marks {
			p.Leaves = append(p.Leaves, api.Leaf{Path: m.Path, Dir: m.Dir, Data: long(n)})
		}
		answers(r, p)
		note.Same(r, all[(7*n)%len(all)])
		note.Verify(known(), p.Leaves)
	}
	head := text(kegLine, fromLine)
	for _, piece := range []string{"\n", " ", "\x00", "\xff", "x", "/", "/a", "keg ", "from ", "needs a *\n", "dir /x\n", "dir ", "9", ".", "1.", "||", "*||", ",", "=1,", noBytes} {
		for ahead, line := range map[string]int{"": 1, "keg b ": 1, "keg ": 1, kegLine + "\n": 2, kegLine + "\nfrom ": 2, head: 3, head + "needs ": 3, head + "needs a ": 3, head + "dir ": 3, head + "file ": 3, head + "file " + noBytes + " ": 3} {
			_, got, e := note.Read(ahead + strings.Repeat(piece, 1<<16))
			if e != api.ErrNote || got < line || got > line+1 {
				t.Errorf("Read(%q and many %q): %d %d", ahead, piece, got, e)
			}
		}
	}
}

// deepCopy is the same receipt in other memory, list by list.
func deepCopy(r api.Receipt) api.Receipt {
	r.Needs, r.Marks = copyNeeds(r.Needs), slices.Clone(r.Marks)
	return r
}

// copyNeeds are the same needs in other memory, list by list.
func copyNeeds(l []api.Need) []api.Need {
	l = slices.Clone(l)
	for n := range l {
		l[n].Span.Rows = slices.Clone(l[n].Span.Rows)
		for k, row := range l[n].Span.Rows {
			l[n].Span.Rows[k] = slices.Clone(row)
		}
	}
	return l
}

// roomy is the same list in other memory, with room behind its end, in which these stand.
func roomy[T any](l []T, behind ...T) []T {
	return append(append(make([]T, 0, len(l)+len(behind)), l...), behind...)[:len(l)]
}

// roomyNeeds are the same needs in other memory, with room behind the end of each list.
func roomyNeeds(l []api.Need) []api.Need {
	bound := api.Bound{Kind: api.BdOver, Version: v("7")}
	l = roomy(l, needs("room", "zz")...)
	for n := range l {
		l[n].Span.Rows = roomy(l[n].Span.Rows, []api.Bound{bound}, nil)
		for k, row := range l[n].Span.Rows {
			l[n].Span.Rows[k] = roomy(row, bound, bound)
		}
	}
	return l
}

// whole is all that stands in needs, marks and leaves, and in the room behind the end of each list.
func whole(n []api.Need, m []api.Mark, l []api.Leaf) string {
	var say strings.Builder
	for _, one := range n[:cap(n)] {
		fmt.Fprintf(&say, "need %q %d\n", one.Name, len(one.Span.Rows))
		for _, row := range one.Span.Rows[:cap(one.Span.Rows)] {
			fmt.Fprintln(&say, "row", len(row), row[:cap(row)])
		}
	}
	fmt.Fprintf(&say, "%d %v\n%d %v", len(m), m[:cap(m)], len(l), l[:cap(l)])
	return say.String()
}

// spoil writes over all that needs and marks have, and the room behind the end of each list.
func spoil(n []api.Need, m []api.Mark) {
	for _, one := range n[:cap(n)] {
		rows := one.Span.Rows[:cap(one.Span.Rows)]
		for k, row := range rows {
			for b := range row[:cap(row)] {
				row[:cap(row)][b] = api.Bound{Kind: api.BdIs, Version: v("66.6")}
			}
			rows[k] = []api.Bound{{Kind: 99}}
		}
	}
	for k := range n[:cap(n)] {
		n[:cap(n)][k] = api.Need{Name: "spoilt"}
	}
	for k := range m[:cap(m)] {
		m[:cap(m)][k] = api.Mark{Path: "/spoilt", Dir: true, Sum: api.Digest{9}}
	}
}

// R3: what is handed in stays as it is, the room behind a list's end, too, and is not kept: needs, the rows and bounds of their spans, marks and leaves.
func TestRuleHandedIn(t *testing.T) {
	packs := slices.Concat(goodPacks(), badPacks(), somePacks(100))
	receipts := slices.Concat(good(), bad(), different())
	for n := range max(len(packs), len(receipts)) {
		p, r := packs[n%len(packs)], receipts[n%len(receipts)]
		want := answers(r, p)
		inR := api.Receipt{Ref: r.Ref, Digest: r.Digest, Needs: roomyNeeds(r.Needs), Marks: roomy(r.Marks, marks("/room/", "/zz=1")...)}
		inP := api.Pack{Ref: p.Ref, Needs: roomyNeeds(p.Needs), Leaves: roomy(p.Leaves, leaves("/room/", "/zz=1")...)}
		ahead := whole(inR.Needs, inR.Marks, inP.Leaves) + whole(inP.Needs, nil, nil)
		got := answers(inR, inP)
		if whole(inR.Needs, inR.Marks, inP.Leaves)+whole(inP.Needs, nil, nil) != ahead {
			t.Fatalf("%.300v, or %.300v, has changed", r, p)
		}
		if got != want {
			t.Fatalf("with room behind its lists %.300v, %.300v answers %.300s, not %.300s", r, p, got, want)
		}
		// What was handed in is not kept, either: the same lists with something else in them are asked anew.
		spoil(inR.Needs, inR.Marks)
		spoil(inP.Needs, nil)
		clear(inP.Leaves)
		if got, want := answers(inR, inP), answers(deepCopy(inR), deepPack(inP)); got != want {
			t.Fatalf("asked anew, behind %.300v, %.300v: %.300s, not %.300s", r, p, got, want)
		}
	}
}

// R3: what Of is handed is not kept, and what it answers is new memory: a pack that is written over leaves the answers as they are.
func TestRuleOf(t *testing.T) {
	shared := needs("a =1,<2||>3,<4")
	shared = append(shared, api.Need{Name: "c", Span: shared[0].Span})
	for _, p := range append(append(goodPacks(), somePacks(200)...), api.Pack{Ref: ref("b", "1"), Needs: shared, Leaves: leaves("/f")}) {
		in := api.Pack{Ref: p.Ref, Needs: roomyNeeds(p.Needs), Leaves: roomy(p.Leaves, leaves("/zz")...)}
		if len(p.Needs) == 2 && p.Needs[1].Name == "c" {
			in.Needs[1].Span = in.Needs[0].Span
		}
		want := receipt(deepPack(in), sum("1"))
		first, _ := note.Of(in, sum("1"))
		second, _ := note.Of(in, sum("1"))
		spoil(first.Needs, first.Marks)
		if !alike(second, want) || !alike(receipt(in, sum("1")), want) {
			t.Fatalf("of %v an answer shares memory: %v", p, second)
		}
		apart(t, second)
		spoil(in.Needs, nil)
		clear(in.Leaves[:cap(in.Leaves)])
		if !alike(second, want) {
			t.Fatalf("of %v something is kept: %v", p, second)
		}
	}
}

// deepPack is the same pack in other memory, list by list.
func deepPack(p api.Pack) api.Pack {
	p.Needs, p.Leaves = copyNeeds(p.Needs), slices.Clone(p.Leaves)
	return p
}

// R3: what Read answers is new memory, that of no other answer, either.
func TestRuleRead(t *testing.T) {
	for _, r := range good() {
		s := tell(r)
		first, _, _ := note.Read(s)
		second, _, _ := note.Read(s)
		spoil(first.Needs, first.Marks)
		if !alike(second, r) {
			t.Fatalf("two answers share memory: %v, of %v", second, r)
		}
		if third, line, e := note.Read(s); !alike(third, r) || line != 0 || e != api.OK {
			t.Fatalf("Read once more: %v %d %d, of %v", third, line, e, r)
		}
		apart(t, second)
	}
}

// R3: what Verify answers is new memory, and what it was handed is not kept.
func TestRuleVerify(t *testing.T) {
	r, l := known(), leaves("/x/", "/x/g", "/y")
	first, _ := note.Verify(r, l)
	second, _ := note.Verify(r, l)
	want := slices.Clone(second)
	for k := range first[:cap(first)] {
		first[:cap(first)][k] = "spoilt"
	}
	spoil(r.Needs, r.Marks)
	clear(l)
	if !slices.Equal(second, want) {
		t.Errorf("%v became %v", want, second)
	}
	verifies(t, known(), leaves("/x/", "/x/g", "/y"), want...)
}

// apart spoils one need after the other, and looks whether just that one has changed.
func apart(t *testing.T, r api.Receipt) {
	t.Helper()
	for n := range r.Needs {
		was := deepCopy(r)
		spoil(r.Needs[n:n+1:n+1], nil)
		r.Needs[n] = was.Needs[n]
		if !alike(r, was) {
			t.Fatalf("the needs of %v share memory", was)
		}
	}
}
