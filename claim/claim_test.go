package claim_test

import (
	"fmt"
	"slices"
	"strings"
	"testing"

	"puncheon/api"
	"puncheon/claim"
)

// tell are texts that two lists of claims have alike just if they are the same, claim by claim.
func tell(l []api.Claim) string {
	var all []string
	for _, c := range l {
		all = append(all, fmt.Sprintf("%q %v %v", c.Path, c.Dir, c.Owners))
	}
	return strings.Join(all, "; ")
}

// of asks for the claims of rows, and tells what is otherwise.
func of(t *testing.T, l [][]api.Leaf, want ...string) {
	t.Helper()
	got, e := claim.Of(l)
	if tell(got) != tell(claims(want...)) || e != api.OK {
		t.Errorf("Of(%s): %s %d, not %v", short(l), tell(got), e, want)
	}
	if !claim.Same(got, claims(want...)) || !claim.Same(claims(want...), got) {
		t.Errorf("Same(%s, %v): false", tell(got), want)
	}
}

// clash asks for the paths of rows that clash, and tells what is otherwise.
func clash(t *testing.T, l [][]api.Leaf, want ...string) {
	t.Helper()
	if got, e := claim.Clashes(l); !slices.Equal(got, want) || e != api.OK {
		t.Errorf("Clashes(%s): %q %d, not %q", short(l), got, e, want)
	}
}

// alone asks that an owner has all beneath paths.
func alone(t *testing.T, l [][]api.Leaf, owner int, paths ...string) {
	t.Helper()
	for _, p := range paths {
		if got, is := claim.Alone(l, p); got != owner || !is {
			t.Errorf("Alone(%s, %s): %d %v, not %d", short(l), short(p), got, is, owner)
		}
	}
}

// nobody asks that no owner has all beneath paths.
func nobody(t *testing.T, l [][]api.Leaf, paths ...string) {
	t.Helper()
	for _, p := range paths {
		if got, is := claim.Alone(l, p); got != 0 || is {
			t.Errorf("Alone(%s, %s): %d %v", short(l), short(p), got, is)
		}
	}
}

// refused asks that rows may not be, by this error, in all calls, whatever is asked of them.
func refused(t *testing.T, l [][]api.Leaf, want api.Errno) {
	t.Helper()
	if got, e := claim.Of(l); len(got) != 0 || e != want {
		t.Errorf("Of(%s): %s %d, not %d", short(l), short(got), e, want)
	}
	if got, e := claim.Clashes(l); len(got) != 0 || e != want {
		t.Errorf("Clashes(%s): %s %d, not %d", short(l), short(got), e, want)
	}
	nobody(t, l, "/", "/a", "/b", "/zz", "/a/b", "")
	for _, row := range l {
		for _, leaf := range row[:min(len(row), 3)] {
			nobody(t, l, leaf.Path)
		}
	}
}

// P16.2: claims: of no rows, of rows of no leaves, of one row, and of several.
func TestOf(t *testing.T) {
	of(t, nil)
	of(t, [][]api.Leaf{})
	of(t, rows(""))
	of(t, [][]api.Leaf{nil, {}, nil})
	of(t, rows("/a"), "/a 0")
	of(t, rows("/a/"), "/a/ 0")
	of(t, rows("", "/a", ""), "/a 1")
	of(t, rows("/x/ /x/f", "/x/ /y/"), "/x/ 0 1", "/x/f 0", "/y/ 1")
	of(t, rows("/x/ /y/", "/x/ /x/f"), "/x/ 0 1", "/x/f 1", "/y/ 0")
	of(t, rows("/b", "/a"), "/a 1", "/b 0")
	of(t, rows("/c", "/b", "/c", "/a/", "/b"), "/a/ 3", "/b 1 4", "/c 0 2")
	of(t, rows("/a/ /a/b/ /a/b/c/ /a/b/c/d", "/a/ /a/b/ /a/b/c/", "/a/ /a/b/", "/a/"), "/a/ 0 1 2 3", "/a/b/ 0 1 2", "/a/b/c/ 0 1", "/a/b/c/d 0")
	of(t, [][]api.Leaf{deepest()[:2], deepest()[:1]}, "/a/ 0 1", "/a/a/ 0")
}

// P16.2: a claim is a directory's just if it is one in all rows that have it, whichever of them has a file.
func TestOfDir(t *testing.T) {
	of(t, rows("/a/", "/a/", "/a/"), "/a/ 0 1 2")
	of(t, rows("/a", "/a", "/a"), "/a 0 1 2")
	of(t, rows("/a", "/a/", "/a/"), "/a 0 1 2")
	of(t, rows("/a/", "/a", "/a/"), "/a 0 1 2")
	of(t, rows("/a/", "/a/", "/a"), "/a 0 1 2")
	of(t, rows("/a/", "/a", "/a"), "/a 0 1 2")
	of(t, rows("/a", "/a", "/a/"), "/a 0 1 2")
	of(t, rows("/a/ /b", "/a /b/"), "/a 0 1", "/b 0 1")
	of(t, rows("/a/ /b/", "/a /b/"), "/a 0 1", "/b/ 0 1")
	// What stands beneath a directory that is a file elsewhere is a path of the rows, too.
	of(t, rows("/a/ /a/b /a/c/", "/a"), "/a 0 1", "/a/b 0", "/a/c/ 0")
	of(t, rows("/a", "/a/ /a/b /a/c/", "/a/ /a/c/"), "/a 0 1 2", "/a/b 1", "/a/c/ 1 2")
	// Bytes change nothing.
	of(t, rows("/a=1", "/a=1"), "/a 0 1")
	of(t, rows("/a=1", "/a=2", "/a"), "/a 0 1 2")
}

// P16.2: rows that have the same leaves.
func TestOfAlike(t *testing.T) {
	of(t, rows("/x/ /x/f /y", "/x/ /x/f /y"), "/x/ 0 1", "/x/f 0 1", "/y 0 1")
	of(t, rows("/x/ /x/f", "/y", "/x/ /x/f"), "/x/ 0 2", "/x/f 0 2", "/y 1")
	l := leaves("/x/", "/x/f")
	of(t, [][]api.Leaf{l, l, l}, "/x/ 0 1 2", "/x/f 0 1 2")
}

// P16.2: claims stand in the order of paths, by names, which is not that of bytes.
func TestOfOrder(t *testing.T) {
	of(t, rows("/a-b", "/a/ /a/b", "/a.b"), "/a/ 1", "/a/b 1", "/a-b 0", "/a.b 2")
	of(t, rows("/a/ /a/z /a+ /a-b /a0 /aa", "/a/ /a/b/ /a/b/c /a/b-c"), "/a/ 0 1", "/a/b/ 1", "/a/b/c 1", "/a/b-c 1", "/a/z 0", "/a+ 0", "/a-b 0", "/a0 0", "/aa 0")
	of(t, rows("/9", "/10", "/a", "/_", "/ab/ /ab/a", "/b", "/-"), "/- 6", "/10 1", "/9 0", "/_ 3", "/a 2", "/ab/ 4", "/ab/a 4", "/b 5")
}

// crowd are as many rows as there may be: all have /a, each one after another of these names in it.
func crowd(names []string) [][]api.Leaf {
	var l [][]api.Leaf
	for _, name := range names {
		l = append(l, leaves("/a/", "/a/"+name))
	}
	return l
}

// P16.2: owners from 0 to MaxOwners-1 rise, in as many rows as there may be.
func TestOfMost(t *testing.T) {
	every := " 0 1 2 3 4 5 6 7 8 9 10 11 12 13 14 15"
	of(t, make([][]api.Leaf, api.MaxOwners))
	of(t, append(make([][]api.Leaf, api.MaxOwners-1), leaves("/a")), "/a 15")
	of(t, slices.Repeat(rows("/a/ /b"), api.MaxOwners), "/a/"+every, "/b"+every)
	want := []string{"/a/" + every}
	for owner, name := range numbered(api.MaxOwners, 2) {
		want = append(want, fmt.Sprintf("/a/%s %d", name, owner))
	}
	of(t, crowd(numbered(api.MaxOwners, 2)), want...)
	turned := numbered(api.MaxOwners, 2)
	slices.Reverse(turned)
	for owner, name := range numbered(api.MaxOwners, 2) {
		want[1+owner] = fmt.Sprintf("/a/%s %d", name, api.MaxOwners-1-owner)
	}
	of(t, crowd(turned), want...)
	// As many paths as there may be: no two rows have one.
	var l [][]api.Leaf
	want = nil
	names := numbered(api.MaxOwners*api.MaxLeaves, 3)
	for owner := range api.MaxOwners {
		l = append(l, nil)
		for n := range api.MaxLeaves {
			l[owner] = append(l[owner], leaves("/"+names[n*api.MaxOwners+owner])...)
		}
	}
	for n, name := range names {
		want = append(want, fmt.Sprintf("/%s %d", name, n%api.MaxOwners))
	}
	of(t, l, want...)
}

// P16.2 to P16.4: more rows than there may be, whether or not they may be a pack's.
func TestTooMany(t *testing.T) {
	for _, many := range []int{api.MaxOwners + 1, api.MaxOwners + 2, 100, 1000} {
		refused(t, make([][]api.Leaf, many), api.ErrLong)
		refused(t, slices.Repeat(rows("/a/ /a/b"), many), api.ErrLong)
		refused(t, append(make([][]api.Leaf, many-1), leaves("/a")), api.ErrLong)
		for _, at := range []int{0, 1, api.MaxOwners - 1, api.MaxOwners, many - 1} {
			for n, row := range badLeaves() {
				if n%5 == at%5 {
					l := make([][]api.Leaf, many)
					l[at] = row
					refused(t, l, api.ErrLong)
				}
			}
		}
		refused(t, slices.Repeat([][]api.Leaf{{{}}}, many), api.ErrLong)
	}
}

// P16.2 to P16.4: a row that may be no pack's, alone, and beside others, at each place.
func TestNoPack(t *testing.T) {
	for n, row := range badLeaves() {
		refused(t, [][]api.Leaf{row}, api.ErrPack)
		refused(t, [][]api.Leaf{row, row}, api.ErrPack)
		for many := range api.MaxOwners {
			l := slices.Repeat(rows("/a/ /a/b"), many)
			refused(t, slices.Insert(l, n%(many+1), row), api.ErrPack)
		}
		for _, good := range goodLeaves() {
			refused(t, [][]api.Leaf{good, row}, api.ErrPack)
			refused(t, [][]api.Leaf{row, good}, api.ErrPack)
		}
	}
	for at := range api.MaxOwners {
		l := make([][]api.Leaf, api.MaxOwners)
		l[at] = leaves("/a/b")
		refused(t, l, api.ErrPack)
	}
}

// P16.2 to P16.4: rows that may be a pack's are as good as any, alone.
func TestGood(t *testing.T) {
	for _, row := range goodLeaves() {
		var want []string
		for _, leaf := range row {
			said := leaf.Path + " 0"
			if leaf.Dir {
				said = leaf.Path + "/ 0"
			}
			want = append(want, said)
			alone(t, [][]api.Leaf{row}, 0, leaf.Path)
			alone(t, [][]api.Leaf{nil, row, nil}, 1, leaf.Path)
		}
		of(t, [][]api.Leaf{row}, want...)
		clash(t, [][]api.Leaf{row})
	}
}

// different are lists of claims of which each two differ, in one part alone, in their order, or in how many there are, for the most: not all are some rows'.
func different() [][]api.Claim {
	l := [][]api.Claim{
		nil, claims("/a"), claims("/a 0"), claims("/a/ 0"), claims("/a 1"), claims("/b 0"), claims("/a 0 1"), claims("/a 1 0"), claims("/a 0 0"), claims("/a 0 1 2"), claims("/a 0 2"), claims("/a/ 0 1"), claims("/a -1"), claims("/a/b 0"), claims("/a-b 0"), claims("/A 0"),
		claims("/a 0", "/b 0"), claims("/b 0", "/a 0"), claims("/a 0", "/a 0"), claims("/a 0", "/a 0", "/a 0"), claims("/a 0", "/b/ 0"), claims("/a/ 0", "/b 0"), claims("/a/ 0", "/b/ 0"), claims("/a 0", "/b 1"), claims("/a 1", "/b 0"), claims("/a 0", "/b 0 1"), claims("/a 0 1", "/b 0"), claims("/a 0", "/c 0"),
		claims("/a 0", "/b 0", "/c 0"), claims("/a 0", "/b 0", "/d 0"), claims("/a 0", "/c 0", "/b 0"), claims("/a 0", "/b 0", "/c/ 0"), claims("/a 0", "/b 0", "/c 1"), claims("/a 0", "/b 1", "/c 0"),
		{{}}, {{}, {}}, {{Dir: true}}, {{Owners: []int{0}}}, {{Path: "a"}}, {{Path: "/"}}, {{Path: "/a "}}, {{Path: "/a\x00"}},
	}
	every := "/a 0 1 2 3 4 5 6 7 8 9 10 11 12 13 14 "
	return append(l, claims(every+"15"), claims(every+"14"), claims(every))
}

// P16.2: Same tells whatever differs apart, and nothing else.
func TestSame(t *testing.T) {
	all := different()
	for n, a := range all {
		for m, b := range all {
			other := slices.Clone(b)
			for k := range other {
				other[k].Owners = slices.Clone(other[k].Owners)
			}
			if got := claim.Same(a, other); got != (n == m) {
				t.Errorf("Same(%s, %s): %v", tell(a), tell(b), got)
			}
		}
	}
}

// P16.2: nil lists and empty ones are one.
func TestSameNil(t *testing.T) {
	for _, x := range [][2][]api.Claim{{nil, {}}, {{}, make([]api.Claim, 0, 3)}, {{{Path: "/a"}}, {{Path: "/a", Owners: []int{}}}}, {{{Path: "/a"}, {Path: "/b", Owners: []int{}}}, {{Path: "/a", Owners: make([]int, 0, 3)}, {Path: "/b"}}}} {
		if !claim.Same(x[0], x[1]) || !claim.Same(x[1], x[0]) {
			t.Errorf("Same(%v, %v): false", x[0], x[1])
		}
	}
}

// P16.3: paths that clash have two owners, or more, and not all have a directory there.
func TestClashes(t *testing.T) {
	clash(t, nil)
	clash(t, rows("", "", ""))
	clash(t, make([][]api.Leaf, api.MaxOwners))
	clash(t, rows("/a/ /a/b /c"))
	clash(t, rows("/x/ /x/f", "/x/ /y/"))
	clash(t, rows("/a/", "/a/", "/a/"))
	clash(t, rows("/a", "/b", "/c"))
	clash(t, rows("/a", "/a"), "/a")
	clash(t, rows("/a=1", "/a=1"), "/a")
	clash(t, rows("/a=1", "/a=2"), "/a")
	clash(t, rows("/a", "/a/"), "/a")
	clash(t, rows("/a/", "/a"), "/a")
	clash(t, rows("/a/", "/a/", "/a"), "/a")
	clash(t, rows("/a/", "/a", "/a/"), "/a")
	clash(t, rows("/a", "/a/", "/a/"), "/a")
	clash(t, rows("/a", "", "/b", "/a"), "/a")
	clash(t, rows("/x/ /x/f", "/x/ /x/f"), "/x/f")
	clash(t, rows("/x/ /x/f", "/x"), "/x")
	clash(t, rows("/x", "/x/ /x/f", "/x/ /x/f"), "/x", "/x/f")
	clash(t, rows("/x/ /x/d/ /x/d/f", "/x/ /x/d"), "/x/d")
	// What is under a path that clashes, or above it, or beside it, does not clash with it.
	clash(t, rows("/x/ /x/f /y", "/x/ /x/g /y/", "/z"), "/y")
	clash(t, rows("/x/ /x/f", "/x-f", "/xf", "/x.f"))
	clash(t, rows("/a", "/a-", "/aa", "/b/ /b/a"))
	// They stand in the order of paths, by names, each once.
	clash(t, rows("/a-b", "/a/ /a/b /a-b /a.b", "/a.b", "/a /a.b"), "/a", "/a-b", "/a.b")
	clash(t, rows("/a/ /a/b /a/c /a-b /z", "/a/ /a/b/ /a/c /a-b/ /z", "/z"), "/a/b", "/a/c", "/a-b", "/z")
	clash(t, rows("/c /d", "/b /c /d", "/a /b /d", "/a"), "/a", "/b", "/c", "/d")
	clash(t, slices.Repeat(rows("/a/ /a/b /c/ /d"), api.MaxOwners), "/a/b", "/d")
	clash(t, crowd(numbered(api.MaxOwners, 2)))
	clash(t, append(crowd(numbered(api.MaxOwners-1, 2)), leaves("/a/", "/a/14")), "/a/14")
	var files []string
	for _, leaf := range rooted(numbered(api.MaxLeaves, 32)) {
		files = append(files, leaf.Path)
	}
	clash(t, [][]api.Leaf{rooted(numbered(api.MaxLeaves, 32)), rooted(numbered(api.MaxLeaves, 32))}, files...)
}

// P16.4: who has all beneath a path is its only owner, and that of all under it.
func TestAlone(t *testing.T) {
	alone(t, rows("/x/ /x/f"), 0, "/x", "/x/f")
	alone(t, rows("/x", "/y"), 0, "/x")
	alone(t, rows("/x", "/y"), 1, "/y")
	nobody(t, rows("/x/", "/x/"), "/x")
	nobody(t, rows("/x", "/x/"), "/x")
	nobody(t, rows("/x", "/x"), "/x")
	// One more owner, right beneath, and deep down.
	l := rows("/x/ /x/y/ /x/y/f /z", "/x/ /x/g")
	nobody(t, l, "/x")
	alone(t, l, 0, "/x/y", "/x/y/f", "/z")
	alone(t, l, 1, "/x/g")
	l = rows("/a/ /a/b/ /a/b/c/ /a/b/c/d", "", "/a/ /a/b/ /a/b/c/ /a/b/c/e")
	nobody(t, l, "/a", "/a/b", "/a/b/c")
	alone(t, l, 0, "/a/b/c/d")
	alone(t, l, 2, "/a/b/c/e")
	l = rows("/a/ /a/b/ /a/b/c", "/a/ /a/b/ /a/b/c", "/a/ /a/d")
	nobody(t, l, "/a", "/a/b", "/a/b/c")
	alone(t, l, 2, "/a/d")
	// Rows in which somebody had something beneath without what is above it may not be.
	for _, beneath := range []string{"/x/f", "/x/g", "/x/y/", "/x/y/z"} {
		nobody(t, rows("/x/ /x/f", beneath), "/x", "/x/f", beneath)
		nobody(t, rows(beneath, "/x/ /x/f"), "/x", "/x/f", beneath)
	}
	// What is a file elsewhere, with something beneath that nobody else has.
	l = rows("/x/ /x/f", "/x")
	nobody(t, l, "/x")
	alone(t, l, 0, "/x/f")
}

// P16.4: a path whose name begins with another one's is not under it.
func TestAloneBegins(t *testing.T) {
	l := rows("/x/ /x/f", "/x-y /xf/ /xf/g", "/x+ /x.y /xx")
	alone(t, l, 0, "/x", "/x/f")
	alone(t, l, 1, "/x-y", "/xf", "/xf/g")
	alone(t, l, 2, "/x.y", "/x+", "/xx")
	nobody(t, l, "/x/", "/x/f/", "/x/g", "/xf/f", "/x-", "/x.", "/xxx")
	l = rows("/a/ /a/b/ /a/b/c", "/a/ /a/b-c /a/bc/", "/a/ /a/bc/ /a/bc/d")
	alone(t, l, 0, "/a/b", "/a/b/c")
	alone(t, l, 1, "/a/b-c")
	alone(t, l, 2, "/a/bc/d")
	nobody(t, l, "/a", "/a/bc", "/a/b/d")
}

// P16.4: nobody has the root, a path that no row has, one above or beneath what a row has, or what is no path.
func TestAloneNobody(t *testing.T) {
	asked := []string{"/", "/q", "/x/q", "/x/f/q", "/x/f/f", "/f", "/y/f", "/f/x"}
	for _, name := range badNames() {
		asked = append(asked, name, "/"+name, "/x/"+name, "/x/f/"+name, name+"/y/x")
	}
	asked = append(asked, "x", "x/f", "//x", "/x/", "/x//f", "/x/./f", "/x/../x", "/x/f\x00", " /x", "/X", strings.Repeat("/x", 40), strings.Repeat("/x", 41), "/"+long(1<<16))
	for _, l := range [][][]api.Leaf{nil, rows(""), make([][]api.Leaf, api.MaxOwners), rows("/x/ /x/f"), rows("/x/ /x/f", ""), rows("/x/ /x/f", "/y/"), rows("", "/y", "/x/ /x/f"), rows("/x/ /x/f", "/x/ /x/f", "/x/ /x/f")} {
		nobody(t, l, asked...)
	}
	nobody(t, nil, "/x", "/x/f")
	nobody(t, rows("", ""), "/x", "/x/f")
	// All above is the root, and what the row itself has.
	alone(t, rows("/a/ /a/b/ /a/b/c"), 0, "/a/b", "/a")
	nobody(t, rows("/a/ /a/b/ /a/b/c"), "/")
	nobody(t, rows("/a/b/c"), "/a/b/c", "/a/b", "/a", "/")
}

// P16.4: each place may be that of who has all beneath.
func TestAloneMost(t *testing.T) {
	l := crowd(numbered(api.MaxOwners, 2))
	nobody(t, l, "/a", "/")
	for owner, name := range numbered(api.MaxOwners, 2) {
		alone(t, l, owner, "/a/"+name)
		one := make([][]api.Leaf, api.MaxOwners)
		one[owner] = deepest()
		for _, leaf := range deepest() {
			alone(t, one, owner, leaf.Path)
		}
	}
	nobody(t, slices.Repeat(rows("/a/ /b"), api.MaxOwners), "/a", "/b")
}

// The chapter's examples, row by row.
func TestExamples(t *testing.T) {
	union(t, []int{1, 2, 3}, []int{3, 1, 3}, []int{2})
	between(t, []int{1, 2, 3}, []int{3, 1}, []int{1, 3}, []int{2})
	between(t, []int{1, 2, 3}, []int{2}, []int{2}, []int{1, 3})
	a, b, file := leaves("/x/", "/x/f"), leaves("/x/", "/y/"), leaves("/x")
	of(t, [][]api.Leaf{a, b}, "/x/ 0 1", "/x/f 0", "/y/ 1")
	clash(t, [][]api.Leaf{a, b})
	clash(t, [][]api.Leaf{a, a}, "/x/f")
	clash(t, [][]api.Leaf{a, file}, "/x")
	nobody(t, [][]api.Leaf{a, b}, "/x")
	alone(t, [][]api.Leaf{a, b}, 0, "/x/f")
	alone(t, [][]api.Leaf{a}, 0, "/x")
}
