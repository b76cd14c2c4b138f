package view_test

import (
	"fmt"
	"slices"
	"strings"
	"testing"

	"puncheon/api"
	"puncheon/pack"
	"puncheon/view"
)

// isPath is the second reading of what a path is.
func isPath(p string) bool {
	if p == "/" {
		return true
	}
	names := strings.Split(p, "/")
	return names[0] == "" && len(names) > 1 && len(names) <= 41 && !slices.ContainsFunc(names[1:], func(name string) bool {
		return name == "" || name == "." || name == ".." || len(name) > 32 || strings.Trim(name, "abcdefghijklmnopqrstuvwxyz0123456789._+-") != ""
	})
}

// mayBe is the second reading of by which error nothing is seen of rows: each leaf is held against each other row.
func mayBe(l [][]api.Leaf) api.Errno {
	if len(l) > 16 {
		return api.ErrLong
	}
	for _, row := range l {
		if pack.CheckLeaves(row) != api.OK {
			return api.ErrPack
		}
	}
	for n, row := range l {
		for _, leaf := range row {
			for _, other := range l[:n] {
				at := slices.IndexFunc(other, func(x api.Leaf) bool { return x.Path == leaf.Path })
				if at >= 0 && !(leaf.Dir && other[at].Dir) {
					return api.ErrClash
				}
			}
		}
	}
	return api.OK
}

// plainAt is the second reading of P17.1: what stands at the path, and right beneath it, is looked for in all rows, without the packages that are tried.
func plainAt(l [][]api.Leaf, p string) (api.Sight, api.Errno) {
	if e := mayBe(l); e != api.OK {
		return none, e
	}
	if !isPath(p) {
		return none, api.ErrPath
	}
	s := none
	if p == "/" {
		s.Kind = 2
	}
	for n, row := range l {
		for _, leaf := range row {
			switch rest, under := strings.CutPrefix(leaf.Path, strings.TrimSuffix(p, "/")+"/"); {
			case leaf.Path == p && leaf.Dir:
				s.Kind = 2
			case leaf.Path == p:
				s = file(n, leaf.Data)
			case under && !strings.Contains(rest, "/"):
				s.Names = append(s.Names, rest)
			}
		}
	}
	slices.Sort(s.Names)
	s.Names = slices.Compact(s.Names)
	return s, api.OK
}

// plainStack is the second reading of P17.2.
func plainStack(l [][][]api.Leaf, p string) (int, api.Sight, api.Errno) {
	if len(l) > 6 {
		return 0, none, api.ErrLong
	}
	place, first := -1, none
	for n, few := range slices.Backward(l) {
		if s, e := plainAt(few, p); e == api.OK && s.Kind != 0 {
			place, first = n, s
		}
	}
	for _, few := range l {
		if _, e := plainAt(few, p); e != api.OK {
			return 0, none, e
		}
	}
	return place, first, api.OK
}

// plainPaths is the second reading of P17.3.
func plainPaths(l [][]api.Leaf) ([]string, api.Errno) {
	if e := mayBe(l); e != api.OK {
		return nil, e
	}
	var all []string
	for _, leaf := range slices.Concat(l...) {
		all = append(all, leaf.Path)
	}
	slices.SortFunc(all, ahead)
	return slices.Compact(all), api.OK
}

// askedOf are paths, and what is none, of rows, and of any.
func askedOf(l [][]api.Leaf) []string {
	asked := []string{"/", "", "a", "/a", "/b", "/a/b", "/a/", "/q", "/a/q", "/a-b", "/a/b/c/d"}
	for _, leaf := range slices.Concat(l...) {
		asked = append(asked, leaf.Path, leaf.Path+"/a")
	}
	slices.Sort(asked)
	return slices.Compact(asked)
}

// holds holds all that is asked of rows against the second reading; it counts what is answered.
func holds(t *testing.T, l [][]api.Leaf, count map[string]int) {
	t.Helper()
	for _, p := range askedOf(l) {
		want, wantE := plainAt(l, p)
		if got, e := view.At(l, p); tell(got) != tell(want) || e != wantE || !view.Same(got, want) {
			t.Fatalf("At(%v, %q): %s %d, not %s %d", l, p, tell(got), e, tell(want), wantE)
		}
		count[fmt.Sprint("kind ", want.Kind)]++
		count[fmt.Sprint("error ", wantE)]++
	}
	want, wantE := plainPaths(l)
	if got, e := view.Paths(l); !slices.Equal(got, want) || e != wantE {
		t.Fatalf("Paths(%v): %q %d, not %q %d", l, got, e, want, wantE)
	}
	count[fmt.Sprint("rows ", wantE)]++
}

// seldom tells what was counted too seldom.
func seldom(t *testing.T, count map[string]int, most int, all ...string) {
	t.Helper()
	for _, one := range all {
		if count[one] < most {
			t.Errorf("just %d times: %s", count[one], one)
		}
	}
}

// P17.1, P17.3: each two rows of few leaves.
func TestLawPairs(t *testing.T) {
	count := map[string]int{}
	for _, a := range grown("/a", "/a/b", "/a/b/c", "/a-b") {
		holds(t, [][]api.Leaf{a}, count)
		for _, b := range grown("/a", "/a/b", "/a/c", "/b") {
			holds(t, [][]api.Leaf{a, b}, count)
			holds(t, [][]api.Leaf{b, a}, count)
		}
	}
	seldom(t, count, 200, "rows 0", "rows 260", "error 110", "kind 0", "kind 1", "kind 2")
}

// P17.1, P17.3: each three rows of very few leaves, and each row beside one that may be no pack's.
func TestLawTriples(t *testing.T) {
	count := map[string]int{}
	small := append(grown("/a", "/a/b", "/a-b"), leaves("/a/", "/a/c"), leaves("/a/b"))
	for _, l := range lists(3, small...) {
		holds(t, l, count)
	}
	for _, a := range badLeaves() {
		for _, b := range small {
			holds(t, [][]api.Leaf{a, b}, count)
			holds(t, [][]api.Leaf{b, a}, count)
		}
	}
	seldom(t, count, 200, "rows 0", "rows 190", "rows 260", "error 110", "kind 0", "kind 1", "kind 2")
}

// P17.1, P17.3: rows of all sorts, up to as many as there may be, and more.
func TestLawMany(t *testing.T) {
	count := map[string]int{}
	for _, l := range someRows(200) {
		holds(t, l, count)
	}
	seldom(t, count, 5, "rows 0", "rows 3", "rows 190", "rows 260", "error 110", "kind 0", "kind 1", "kind 2")
}

// stacked holds a stack against the second reading; it counts what is answered.
func stacked(t *testing.T, l [][][]api.Leaf, p string, count map[string]int) {
	t.Helper()
	place, want, wantE := plainStack(l, p)
	if n, got, e := view.Stack(l, p); n != place || tell(got) != tell(want) || e != wantE {
		t.Fatalf("Stack(%v, %q): %d %s %d, not %d %s %d", l, p, n, tell(got), e, place, tell(want), wantE)
	}
	count[fmt.Sprint("place ", place)]++
	count[fmt.Sprint("error ", wantE)]++
}

// P17.2: each stack of very few rows of rows.
func TestLawStacks(t *testing.T) {
	count := map[string]int{}
	for _, l := range lists(4, nil, rows("/a"), rows("/a/", "/a/ /a/b=1"), rows("/a/ /a/c", "/b"), rows("/b", "/b"), rows("/a/b"), make([][]api.Leaf, 17)) {
		for _, p := range []string{"/", "/a", "/a/b", "/a/b/c", "/b", "a"} {
			stacked(t, l, p, count)
		}
	}
	seldom(t, count, 10, "place -1", "place 0", "place 1", "place 2", "place 3", "error 0", "error 3", "error 110", "error 190", "error 260")
}

// P17.2: stacks of rows of rows of all sorts, up to as many as there may be, and more.
func TestLawStacksMany(t *testing.T) {
	count := map[string]int{}
	next := numbers()
	good, bad := someGood(200), allWrong()
	for range 300 {
		var l [][][]api.Leaf
		for range next(api.MaxStack + 2) {
			if few := good[next(len(good))]; next(20) > 0 {
				l = append(l, few[:next(len(few)+1)])
			} else {
				l = append(l, bad[next(len(bad))].rows)
			}
		}
		asked := []string{"/q", "/a/b", ""}
		for _, few := range l {
			for _, leaf := range slices.Concat(few...) {
				if next(12) == 0 {
					asked = append(asked, leaf.Path)
				}
			}
		}
		for _, p := range asked {
			stacked(t, l, p, count)
		}
	}
	seldom(t, count, 10, "place -1", "place 0", "place 1", "place 2", "place 3", "place 4", "place 5", "error 0", "error 3", "error 110", "error 190", "error 260")
}

// someGood are rows of all sorts that go together.
func someGood(many int) [][][]api.Leaf {
	return slices.DeleteFunc(someRows(many), func(l [][]api.Leaf) bool { return mayBe(l) != api.OK })
}

// P17.4: rows in another order: the same is seen, but for Owners, which go where the rows go; what does not go together does not then, either.
func TestLawOrders(t *testing.T) {
	next := numbers()
	files := 0
	for _, l := range append(someRows(60), lists(3, grown("/a", "/a/b")...)...) {
		to := make([]int, len(l)) // where each row goes
		for n := range to {
			k := next(n + 1)
			to[n] = to[k]
			to[k] = n
		}
		other := make([][]api.Leaf, len(l))
		for n, row := range l {
			other[to[n]] = row
		}
		want, wantE := view.Paths(l)
		if got, e := view.Paths(other); !slices.Equal(got, want) || e != wantE {
			t.Fatalf("Paths(%v): %q %d, not %q %d", other, got, e, want, wantE)
		}
		for _, p := range askedOf(l) {
			s, wantE := view.At(l, p)
			if s.Kind == 1 {
				s.Owner = to[s.Owner]
				files++
			}
			if got, e := view.At(other, p); tell(got) != tell(s) || e != wantE {
				t.Fatalf("At(%v, %q): %s %d, not %s %d", other, p, tell(got), e, tell(s), wantE)
			}
		}
	}
	if files < 1000 {
		t.Errorf("just %d files were seen", files)
	}
}

// P17.4: each leaf of each row is seen as it is.
func TestLawLeaves(t *testing.T) {
	dirs, files := 0, 0
	for _, l := range append(someGood(150), most()) {
		for n, row := range l {
			for _, leaf := range row {
				s, e := view.At(l, leaf.Path)
				switch {
				case e != api.OK:
					t.Fatalf("At(%v, %q): %d", l, leaf.Path, e)
				case leaf.Dir && s.Kind == 2 && s.Owner == 0 && s.Data == "":
					dirs++
				case !leaf.Dir && tell(s) == tell(file(n, leaf.Data)):
					files++
				default:
					t.Fatalf("At(%v, %q): %s", l, leaf.Path, tell(s))
				}
			}
		}
	}
	if dirs < 1000 || files < 1000 {
		t.Errorf("just %d directories, %d files were seen", dirs, files)
	}
}

// P17.4: what is seen at a path is among the Names of the path without its last name, and nothing else is.
func TestLawNames(t *testing.T) {
	for _, l := range append(someGood(80), most(), nil) {
		all, _ := view.Paths(l)
		var named []string
		for _, p := range append([]string{"/"}, all...) {
			s, e := view.At(l, p)
			if e != api.OK || s.Kind == 0 || s.Kind == 1 && len(s.Names) > 0 {
				t.Fatalf("At(%v, %q): %s %d", l, p, tell(s), e)
			}
			for _, name := range s.Names {
				named = append(named, strings.TrimSuffix(p, "/")+"/"+name)
			}
		}
		slices.SortFunc(named, ahead)
		if !slices.Equal(named, all) {
			t.Fatalf("of %v %q are seen, and named %q", l, all, named)
		}
		for _, p := range askedOf(l) {
			if s, e := view.At(l, p); e == api.OK && p != "/" && (s.Kind != 0) != slices.Contains(named, p) {
				t.Fatalf("At(%v, %q): %s, and named %q", l, p, tell(s), named)
			}
		}
	}
}

// P17.4: with a row more, at whatever place, nothing that was seen is gone, but for Names, which may be more, and Owners, as far as the rows have other places.
func TestLawMore(t *testing.T) {
	kept, more := 0, 0
	next := numbers()
	for _, l := range someGood(120) {
		if len(l) > 0 {
			at := next(len(l))
			fewer := slices.Delete(slices.Clone(l), at, at+1)
			for _, p := range askedOf(fewer) {
				had, e := view.At(fewer, p)
				if e != api.OK || had.Kind == 0 {
					continue
				}
				if had.Kind == 1 && had.Owner >= at {
					had.Owner++
				}
				has, e := view.At(l, p)
				if len(has.Names) > len(had.Names) {
					more++
				}
				for _, name := range had.Names {
					if !slices.Contains(has.Names, name) {
						t.Fatalf("At(%v, %q): %s without %s", l, p, tell(has), name)
					}
				}
				had.Names, has.Names = nil, nil
				if tell(had) != tell(has) || e != api.OK {
					t.Fatalf("At(%v, %q): %s %d, not %s", l, p, tell(has), e, tell(had))
				}
				kept++
			}
			had, _ := view.Paths(fewer)
			has, e := view.Paths(l)
			if e != api.OK || slices.ContainsFunc(had, func(p string) bool { return !slices.Contains(has, p) }) {
				t.Fatalf("Paths(%v): %q %d, not all of %q", l, has, e, had)
			}
		}
	}
	if kept < 1000 || more < 100 {
		t.Errorf("just %d sights, %d with more names", kept, more)
	}
}

// answers are what all calls answer of rows.
func answers(l [][]api.Leaf) string {
	all, e := view.Paths(l)
	said := []string{fmt.Sprintf("%q %d", all, e)}
	for _, p := range append(all[:len(all):len(all)], "/", "/a", "/a/b", "/x", "", "x") {
		s, e := view.At(l, p)
		place, first, stackE := view.Stack([][][]api.Leaf{nil, l, l}, p)
		said = append(said, fmt.Sprint(tell(s), e, place, tell(first), stackE, view.Same(s, first), view.Same(s, none)))
	}
	return strings.Join(said, "; ")
}

// sorts are rows of all sorts, some of which may not be, or don't go together.
func sorts() [][][]api.Leaf {
	all := append(someRows(50), clashing()...)
	for _, row := range append(goodLeaves(), badLeaves()...) {
		all = append(all, [][]api.Leaf{row}, [][]api.Leaf{leaves("/a/", "/a/b"), row})
	}
	return append(all, nil, make([][]api.Leaf, 17), slices.Repeat([][]api.Leaf{{{}}}, 17), most())
}

// R5: each answer is the same in whatever order, and however often, it is asked.
func TestRuleOrder(t *testing.T) {
	all := sorts()
	var first []string
	for _, l := range all {
		first = append(first, answers(l))
	}
	for n, want := range slices.Backward(first) {
		if got := answers(all[n]); got != want {
			t.Fatalf("of %v: %s, not %s", all[n], got, want)
		}
	}
}

// R1: no call panics, or goes on without end, at whatever it is given.
func TestRuleEnds(t *testing.T) {
	huge := api.Leaf{Path: "/" + long(1<<20), Dir: true, Data: long(1 << 20)}
	deep := api.Leaf{Path: strings.Repeat("/a", 1<<19)}
	for _, l := range [][][]api.Leaf{{{huge}}, {{deep}}, {{deep, huge}, nil}, {make([]api.Leaf, 1<<16)}, {rooted(numbered(1<<14, 5))}, {slices.Repeat(leaves("/a/"), 1<<16)}} {
		refused(t, l, api.ErrPack)
		refused(t, slices.Concat(rows("/a", "/a"), l), api.ErrPack)
		refused(t, append(slices.Clone(l), make([][]api.Leaf, 1<<16)...), api.ErrLong)
		noSight(t, l, huge.Path, api.ErrPack)
		noStack(t, slices.Repeat([][][]api.Leaf{l}, 1<<16), deep.Path, api.ErrLong)
	}
	refused(t, slices.Repeat([][]api.Leaf{{huge, deep}}, 1<<16), api.ErrLong)
	for _, p := range []string{huge.Path, deep.Path, long(1 << 20), strings.Repeat("/", 1<<20), strings.Repeat("/..", 1<<18), strings.Repeat("\x00", 1<<20), huge.Path + deep.Path} {
		noSight(t, nil, p, api.ErrPath)
		noSight(t, rows("/a/ /a/b", "/a/"), p, api.ErrPath)
		noSight(t, rows("/a", "/a"), p, api.ErrClash)
		noStack(t, [][][]api.Leaf{nil, rows("/a")}, p, api.ErrPath)
	}
	many := api.Sight{Kind: 1 << 60, Owner: -1 << 60, Data: long(1 << 20), Names: slices.Repeat([]string{huge.Path, ""}, 1<<10)}
	other := many
	other.Names = slices.Clone(many.Names)
	if !view.Same(many, other) || view.Same(many, none) || view.Same(none, many) {
		t.Error("Same of what is huge")
	}
	other.Names = many.Names[1:]
	if view.Same(many, other) || view.Same(other, many) {
		t.Error("Same of what is huge, and turned")
	}
}

// roomy is a list in other memory, with room behind its end, in which something stands.
func roomy[T any](l []T, room ...T) []T {
	return append(slices.Clone(l), room...)[:len(l)]
}

// fill puts something at each place of a list, and in the room behind its end.
func fill[T any](l []T, with T) {
	for n := range l[:cap(l)] {
		l[:cap(l)][n] = with
	}
}

// roomyRows are the same rows in other memory, with room behind the end of each list, in which something stands.
func roomyRows(l [][]api.Leaf) [][]api.Leaf {
	l = roomy(l, leaves("/room"), leaves("/a/"))
	for n, row := range l {
		l[n] = roomy(row, leaves("/room/", "/zz")...)
	}
	return l
}

// whole is all that rows have, the room behind their ends, too.
func whole(l [][]api.Leaf) string {
	l = slices.Clone(l[:cap(l)])
	for n, row := range l {
		l[n] = row[:cap(row)]
	}
	return fmt.Sprintf("%q", fmt.Sprint(l))
}

// spoil changes whatever stands in rows, and in the room behind their ends.
func spoil(l [][]api.Leaf) {
	for _, row := range l[:cap(l)] {
		fill(row, api.Leaf{Path: "/spoilt"})
	}
	fill(l, leaves("/spoilt"))
}

// R3: rows that are handed in stay as they are, the room behind a list's end, too; that room changes no answer, and nothing is kept.
func TestRuleHandedIn(t *testing.T) {
	for _, l := range sorts() {
		want := answers(l)
		in := roomyRows(l)
		before := whole(in)
		got := answers(in)
		if whole(in) != before {
			t.Fatalf("%s became %s", before, whole(in))
		}
		if got != want {
			t.Fatalf("with room behind its ends %v: %s, not %s", l, got, want)
		}
		// The same lists with something else in them are asked anew.
		spoil(in)
		if got, want := answers(in), answers(slices.Repeat(rows("/spoilt"), len(l))); got != want {
			t.Fatalf("asked anew, behind %v: %s, not %s", l, got, want)
		}
	}
}

// R3: a stack that is handed in stays as it is, the room behind a list's end, too; that room changes no answer.
func TestRuleStack(t *testing.T) {
	all := sorts()
	for n, l := range all {
		var in [][][]api.Leaf
		for k := range n%api.MaxStack + 1 {
			in = append(in, roomyRows(all[(n+k*37)%len(all)]))
		}
		in[n%len(in)] = roomyRows(l)
		in = roomy(in, rows("/a/ /a/b /room"), rows("/x", "/x"))
		told := func() string {
			s := fmt.Sprint(len(in))
			for _, few := range in[:cap(in)] {
				s += whole(few)
			}
			return s
		}
		before := told()
		for _, p := range []string{"/", "/a", "/a/b", "/room", "/zz", "x"} {
			place, want, wantE := plainStack(in, p)
			if got, s, e := view.Stack(in, p); got != place || tell(s) != tell(want) || e != wantE {
				t.Fatalf("Stack(%v, %q): %d %s %d, not %d %s %d", in, p, got, tell(s), e, place, tell(want), wantE)
			}
		}
		if told() != before {
			t.Fatalf("%s became %s", before, told())
		}
	}
}

// R3: sights that are held against each other stay as they are, the room behind their Names' ends, too, and that room changes nothing.
func TestRuleSame(t *testing.T) {
	all := different()
	for n, a := range all {
		for m, b := range all {
			a, b := a, b
			a.Names, b.Names = roomy(a.Names, "a", "room"), roomy(b.Names, "b")
			before := fmt.Sprintf("%q %q", a.Names[:cap(a.Names)], b.Names[:cap(b.Names)])
			if got := view.Same(a, b); got != (n == m) || fmt.Sprintf("%q %q", a.Names[:cap(a.Names)], b.Names[:cap(b.Names)]) != before {
				t.Fatalf("Same of %s: %v", before, got)
			}
		}
	}
}

// R3: what is answered is new memory, and nothing of it hangs on what was handed in.
func TestRuleNew(t *testing.T) {
	for _, l := range someGood(50) {
		in := roomyRows(l)
		before := whole(in)
		want, _ := plainPaths(l)
		first, _ := view.Paths(in)
		second, _ := view.Paths(in)
		fill(first, "spoilt")
		asked := askedOf(l)
		var seen, wanted []string
		var kept []api.Sight
		for _, p := range asked {
			a, _ := view.At(in, p)
			_, b, _ := view.Stack([][][]api.Leaf{in}, p)
			c, _ := view.At(in, p)
			_, d, _ := view.Stack([][][]api.Leaf{in}, p)
			fill(a.Names, "spoilt")
			fill(b.Names, "spoilt")
			s, _ := plainAt(l, p)
			kept = append(kept, c, d)
			wanted = append(wanted, tell(s), tell(s))
		}
		if whole(in) != before {
			t.Fatalf("with answers spoilt %s became %s", before, whole(in))
		}
		spoil(in)
		for _, s := range kept {
			seen = append(seen, tell(s))
		}
		if !slices.Equal(seen, wanted) || !slices.Equal(second, want) {
			t.Fatalf("of %v something is shared: %q, %q", l, seen, second)
		}
	}
}
