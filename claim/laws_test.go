package claim_test

import (
	"fmt"
	"slices"
	"strings"
	"testing"

	"puncheon/api"
	"puncheon/claim"
	"puncheon/pack"
)

// plainOf is the second reading of P16.2: paths, and who has them, are looked for in all rows, without the package that is tried.
func plainOf(l [][]api.Leaf) ([]api.Claim, api.Errno) {
	if len(l) > 16 {
		return nil, api.ErrLong
	}
	var paths []string
	for _, row := range l {
		if pack.CheckLeaves(row) != api.OK {
			return nil, api.ErrPack
		}
		for _, leaf := range row {
			paths = append(paths, leaf.Path)
		}
	}
	slices.SortFunc(paths, ahead)
	var all []api.Claim
	for _, p := range slices.Compact(paths) {
		c := api.Claim{Path: p, Dir: true}
		for n, row := range l {
			if at := slices.IndexFunc(row, func(leaf api.Leaf) bool { return leaf.Path == p }); at >= 0 {
				c.Owners = append(c.Owners, n)
				c.Dir = c.Dir && row[at].Dir
			}
		}
		all = append(all, c)
	}
	return all, api.OK
}

// plainClashes is the second reading of P16.3: how many rows have something at a path, and how many a directory.
func plainClashes(l [][]api.Leaf) ([]string, api.Errno) {
	all, e := plainOf(l)
	var paths []string
	for _, c := range all {
		have, dirs := 0, 0
		for _, row := range l {
			if slices.Contains(row, api.Leaf{Path: c.Path, Dir: true}) {
				dirs++
			}
			if slices.ContainsFunc(row, func(leaf api.Leaf) bool { return leaf.Path == c.Path }) {
				have++
			}
		}
		if have >= 2 && dirs < have {
			paths = append(paths, c.Path)
		}
	}
	return paths, e
}

// under tells whether a path that is not / is under another one that is not.
func under(p, dir string) bool {
	return p == dir || strings.HasPrefix(p, dir+"/")
}

// plainAlone is the second reading of P16.4, of the rows that have these claims: each owner is asked, of the path and of all under it.
func plainAlone(all []api.Claim, p string) (int, bool) {
	at := slices.IndexFunc(all, func(c api.Claim) bool { return c.Path == p })
	if at < 0 {
		return 0, false
	}
	for _, owner := range all[at].Owners {
		if !slices.ContainsFunc(all, func(c api.Claim) bool { return under(c.Path, p) && !slices.Equal(c.Owners, []int{owner}) }) {
			return owner, true
		}
	}
	return 0, false
}

// holds holds all that is asked of rows against the second reading; it counts what is answered.
func holds(t *testing.T, l [][]api.Leaf, count map[string]int) {
	t.Helper()
	want, wantE := plainOf(l)
	if got, e := claim.Of(l); tell(got) != tell(want) || e != wantE || !claim.Same(got, want) {
		t.Fatalf("Of(%v): %s %d, not %s %d", l, tell(got), e, tell(want), wantE)
	}
	count[fmt.Sprint("error ", wantE)]++
	paths, wantE := plainClashes(l)
	if got, e := claim.Clashes(l); !slices.Equal(got, paths) || e != wantE {
		t.Fatalf("Clashes(%v): %q %d, not %q %d", l, got, e, paths, wantE)
	}
	count[fmt.Sprint("clash ", len(paths) > 0)]++
	asked := []string{"/", "", "a", "/a", "/b", "/a/b", "/a/", "/q", "/a/q"}
	for _, c := range want {
		asked = append(asked, c.Path)
	}
	for _, p := range asked {
		owner, is := plainAlone(want, p)
		if got, ok := claim.Alone(l, p); got != owner || ok != is {
			t.Fatalf("Alone(%v, %q): %d %v, not %d %v", l, p, got, ok, owner, is)
		}
		count[fmt.Sprint("alone ", is)]++
	}
}

// seldom tells what was counted too seldom.
func seldom(t *testing.T, count map[string]int, most int, all ...string) {
	t.Helper()
	for _, one := range all {
		if count[one] < most {
			t.Errorf("just %d times: %s", count[one], one)
		}
	}
}

// P16.2 to P16.4: each two rows of few leaves.
func TestLawPairs(t *testing.T) {
	count := map[string]int{}
	for _, a := range grown("/a", "/a/b", "/a/b/c", "/a-b") {
		holds(t, [][]api.Leaf{a}, count)
		for _, b := range grown("/a", "/a/b", "/a/b/c", "/a-b", "/b") {
			holds(t, [][]api.Leaf{a, b}, count)
			holds(t, [][]api.Leaf{b, a}, count)
		}
	}
	seldom(t, count, 500, "error 0", "clash true", "clash false", "alone true", "alone false")
}

// P16.2 to P16.4: each three rows of very few leaves, and each row beside one that may be no pack's.
func TestLawTriples(t *testing.T) {
	count := map[string]int{}
	small := append(grown("/a", "/a/b", "/a-b"), leaves("/a/b"))
	for _, l := range lists(3, small...) {
		holds(t, l, count)
	}
	for _, a := range badLeaves() {
		for _, b := range small {
			holds(t, [][]api.Leaf{a, b}, count)
			holds(t, [][]api.Leaf{b, a}, count)
		}
	}
	seldom(t, count, 500, "error 0", "error 190", "clash true", "clash false", "alone true", "alone false")
}

// P16.2 to P16.4: rows of all sorts, up to as many as there may be, and more.
func TestLawMany(t *testing.T) {
	count := map[string]int{}
	for _, l := range someRows(800) {
		holds(t, l, count)
	}
	seldom(t, count, 30, "error 0", "error 3", "error 190", "clash true", "clash false", "alone true", "alone false")
}

// someGood are rows of all sorts that may be.
func someGood(many int) [][][]api.Leaf {
	return slices.DeleteFunc(someRows(many), func(l [][]api.Leaf) bool {
		_, e := plainOf(l)
		return e != api.OK
	})
}

// P16.5: rows in another order clash at the same paths; their claims are the same, but for who owns them; and who has all beneath goes where the row goes.
func TestLawOrders(t *testing.T) {
	next := numbers()
	all := append(someGood(400), lists(3, grown("/a", "/a/b")...)...)
	for _, l := range all {
		to := make([]int, len(l)) // where each row goes
		for n := range to {
			k := next(n + 1)
			to[n] = to[k]
			to[k] = n
		}
		other := make([][]api.Leaf, len(l))
		for n, row := range l {
			other[to[n]] = row
		}
		clashing, _ := claim.Clashes(l)
		clash(t, other, clashing...)
		want, _ := claim.Of(l)
		for _, c := range want {
			if owner, is := claim.Alone(l, c.Path); is {
				alone(t, other, to[owner], c.Path)
			} else {
				nobody(t, other, c.Path)
			}
			for n, owner := range c.Owners {
				c.Owners[n] = to[owner]
			}
			slices.Sort(c.Owners)
		}
		if got, e := claim.Of(other); tell(got) != tell(want) || e != api.OK {
			t.Fatalf("Of(%v): %s %d, not %s", other, tell(got), e, tell(want))
		}
	}
}

// P16.5: nothing clashes with itself but files; and nothing at all in one row.
func TestLawItself(t *testing.T) {
	all := slices.Concat(goodLeaves(), grown("/a", "/a/b", "/a/b/c", "/a-b", "/b"))
	for _, l := range someGood(200) {
		all = append(all, l...)
	}
	for _, row := range all {
		var files []string
		for _, leaf := range row {
			if !leaf.Dir {
				files = append(files, leaf.Path)
			}
		}
		clash(t, [][]api.Leaf{row})
		clash(t, [][]api.Leaf{row, row}, files...)
		clash(t, [][]api.Leaf{nil, row, slices.Clone(row), row, {}}, files...)
		clash(t, slices.Repeat([][]api.Leaf{row}, api.MaxOwners), files...)
	}
}

// P16.5: whoever has all beneath a path has all beneath each that is under it, of those that it has; and nobody else has something there.
func TestLawBeneath(t *testing.T) {
	some := 0
	for _, l := range someGood(250) {
		all, _ := claim.Of(l)
		for _, c := range all {
			owner, is := claim.Alone(l, c.Path)
			if !is {
				continue
			}
			for _, row := range l {
				for _, leaf := range row {
					if under(leaf.Path, c.Path) {
						alone(t, l, owner, leaf.Path)
						some++
					}
				}
			}
			for n, row := range l {
				if n != owner && slices.ContainsFunc(row, func(leaf api.Leaf) bool { return under(leaf.Path, c.Path) }) {
					t.Fatalf("Alone(%v, %q): %d, and %d has something there", l, c.Path, owner, n)
				}
			}
		}
	}
	if some < 1000 {
		t.Errorf("just %d paths were beneath", some)
	}
}

// answers are what all calls answer of rows.
func answers(l [][]api.Leaf) string {
	all, e := claim.Of(l)
	paths, clashE := claim.Clashes(l)
	said := []string{fmt.Sprintf("%s %d %q %d", tell(all), e, paths, clashE)}
	for _, p := range []string{"/", "/a", "/a/b", "/b", "/x", "/x/f", "", "x"} {
		owner, is := claim.Alone(l, p)
		said = append(said, fmt.Sprint(owner, is, claim.Same(all, all), claim.Same(all, nil)))
	}
	return strings.Join(said, "; ")
}

// sorts are rows of all sorts, some of which may not be.
func sorts() [][][]api.Leaf {
	all := someRows(300)
	for _, row := range append(goodLeaves(), badLeaves()...) {
		all = append(all, [][]api.Leaf{row}, [][]api.Leaf{leaves("/a/", "/a/b"), row, row})
	}
	return append(all, nil, make([][]api.Leaf, 17), slices.Repeat([][]api.Leaf{{{}}}, 17))
}

// R5: each answer is the same in whatever order, and however often, it is asked.
func TestRuleOrder(t *testing.T) {
	all := sorts()
	var first []string
	for _, l := range all {
		first = append(first, answers(l))
	}
	for n, want := range slices.Backward(first) {
		if got := answers(all[n]); got != want {
			t.Fatalf("of %v: %s, not %s", all[n], got, want)
		}
	}
}

// R1: no call panics, or goes on without end, at whatever it is given.
func TestRuleEnds(t *testing.T) {
	huge := api.Leaf{Path: "/" + long(1<<20), Dir: true, Data: long(1 << 20)}
	deep := api.Leaf{Path: strings.Repeat("/a", 1<<19)}
	for _, l := range [][][]api.Leaf{{{huge}}, {{deep}}, {{deep, huge}, nil}, {make([]api.Leaf, 1<<16)}, {rooted(numbered(1<<14, 5))}, {slices.Repeat(leaves("/a/"), 1<<16)}} {
		refused(t, l, api.ErrPack)
		refused(t, slices.Concat(rows("/a"), l), api.ErrPack)
		nobody(t, l, huge.Path, deep.Path)
		refused(t, append(slices.Clone(l), make([][]api.Leaf, 1<<16)...), api.ErrLong)
	}
	refused(t, slices.Repeat([][]api.Leaf{{huge, deep}}, 1<<16), api.ErrLong)
	nobody(t, rows("/a/ /a/b", "/a/"), huge.Path, deep.Path, long(1<<20), strings.Repeat("/", 1<<20), strings.Repeat("/..", 1<<18), strings.Repeat("\x00", 1<<20))
	many := slices.Repeat([]api.Claim{{Path: huge.Path, Owners: make([]int, 1<<10)}}, 1<<8)
	if !claim.Same(many, slices.Clone(many)) || claim.Same(many, many[1:]) || claim.Same(nil, many) {
		t.Error("Same of what is huge")
	}
	texts := slices.Repeat([]string{huge.Path, "", deep.Path}, 1<<10)
	union(t, []string{"", deep.Path, huge.Path}, texts, nil, texts)
	between(t, texts, texts, []string{"", deep.Path, huge.Path}, nil)
	union(t, []int{0}, slices.Repeat([][]int{{0}}, 1<<16)...)
}

// roomyRows are the same rows in other memory, with room behind the end of each list, in which something stands.
func roomyRows(l [][]api.Leaf) [][]api.Leaf {
	l = roomy(l, leaves("/room"), leaves("/a/"))
	for n, row := range l {
		l[n] = roomy(row, leaves("/room/", "/zz")...)
	}
	return l
}

// whole is all that lists have, the room behind their ends, too.
func whole(l [][]api.Leaf) string {
	l = slices.Clone(l[:cap(l)])
	for n, row := range l {
		l[n] = row[:cap(row)]
	}
	return fmt.Sprintf("%q", fmt.Sprint(l))
}

// spoil changes whatever stands in rows, and in the room behind their ends.
func spoil(l [][]api.Leaf) {
	for _, row := range l[:cap(l)] {
		fill(row, api.Leaf{Path: "/spoilt"})
	}
	fill(l, leaves("/spoilt"))
}

// spoilClaims changes whatever stands in claims, and in the room behind their ends.
func spoilClaims(l []api.Claim) {
	for _, c := range l {
		fill(c.Owners, -9)
	}
	fill(l, api.Claim{Path: "/spoilt"})
}

// R3: rows that are handed in stay as they are, the room behind a list's end, too; that room changes no answer, and nothing is kept.
func TestRuleHandedIn(t *testing.T) {
	for _, l := range sorts() {
		want := answers(l)
		in := roomyRows(l)
		before := whole(in)
		got := answers(in)
		if whole(in) != before {
			t.Fatalf("%s became %s", before, whole(in))
		}
		if got != want {
			t.Fatalf("with room behind its ends %v: %s, not %s", l, got, want)
		}
		// The same lists with something else in them are asked anew.
		spoil(in)
		if got, want := answers(in), answers(slices.Repeat(rows("/spoilt"), len(l))); got != want {
			t.Fatalf("asked anew, behind %v: %s, not %s", l, got, want)
		}
	}
}

// R3: claims that are held against each other stay as they are, the room behind a list's end, too, and that room changes nothing.
func TestRuleSame(t *testing.T) {
	tellAll := func(l []api.Claim) string {
		l = slices.Clone(l[:cap(l)])
		for n := range l {
			l[n].Owners = l[n].Owners[:cap(l[n].Owners)]
		}
		return tell(l)
	}
	all := different()
	for n, a := range all {
		for m, b := range all {
			in, inB := roomy(a, claims("/room 0")...), roomy(b, claims("/zz 1", "/zz 2")...)
			for k := range in {
				in[k].Owners = roomy(in[k].Owners, 7)
			}
			for k := range inB {
				inB[k].Owners = roomy(inB[k].Owners, 8, 9)
			}
			before, beforeB := tellAll(in), tellAll(inB)
			if got := claim.Same(in, inB); got != (n == m) || tellAll(in) != before || tellAll(inB) != beforeB {
				t.Fatalf("Same(%s, %s): %v, and they became %s, %s", before, beforeB, got, tellAll(in), tellAll(inB))
			}
		}
	}
}

// R3: what Of and Clashes answer is new memory, and nothing of it hangs on what was handed in.
func TestRuleNew(t *testing.T) {
	for _, l := range someGood(300) {
		in := roomyRows(l)
		before := whole(in)
		want, _ := plainOf(l)
		paths, _ := plainClashes(l)
		first, _ := claim.Of(in)
		second, _ := claim.Of(in)
		clashes, _ := claim.Clashes(in)
		again, _ := claim.Clashes(in)
		spoilClaims(first)
		fill(clashes, "/spoilt")
		if whole(in) != before {
			t.Fatalf("with answers spoilt %s became %s", before, whole(in))
		}
		spoil(in)
		if tell(second) != tell(want) || !slices.Equal(again, paths) {
			t.Fatalf("of %v something is shared: %s, %q", l, tell(second), again)
		}
	}
}

// R3: no two lists of one answer share memory, not even the room behind their ends.
func TestRuleApart(t *testing.T) {
	for _, l := range someGood(300) {
		want, _ := plainOf(l)
		got, _ := claim.Of(l)
		for n := range got {
			fill(got[n].Owners, -9)
			if len(got[n].Owners) != len(want[n].Owners) {
				t.Fatalf("of %v: %d owners of %s", l, len(got[n].Owners), got[n].Path)
			}
			if tell(got[n+1:]) != tell(want[n+1:]) {
				t.Fatalf("of %v: with the owners of %s spoilt others are, too: %s", l, got[n].Path, tell(got))
			}
		}
		if slices.ContainsFunc(got, func(c api.Claim) bool {
			return slices.ContainsFunc(c.Owners, func(owner int) bool { return owner != -9 })
		}) {
			t.Fatalf("of %v: %s", l, tell(got))
		}
	}
}
