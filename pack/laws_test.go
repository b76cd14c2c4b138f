package pack_test

import (
	"fmt"
	"math"
	"regexp"
	"slices"
	"strconv"
	"strings"
	"testing"

	"puncheon/api"
	"puncheon/pack"
	"puncheon/sha"
	"puncheon/span"
	"puncheon/version"
)

// What names, and the beginnings of parts, look like.
var (
	nameForm = regexp.MustCompile(`^[a-z0-9._+-]{1,32}$`)
	partForm = regexp.MustCompile(`^(0|[1-9][0-9]*)([;:])`)
)

// plainName tells whether s is a name, without the packages of the program.
func plainName(s string) bool {
	return nameForm.MatchString(s) && s != "." && s != ".."
}

// plainRising tells whether texts rise, byte by byte.
func plainRising(l []string) bool {
	return slices.IsSorted(l) && len(slices.Compact(slices.Clone(l))) == len(l)
}

// plainNeeds tells whether l may be somebody's needs, without the package that is tried.
func plainNeeds(l []api.Need) bool {
	var names []string
	for _, n := range l {
		if !plainName(n.Name) || span.Check(n.Span) != api.OK {
			return false
		}
		names = append(names, n.Name)
	}
	return len(l) <= 4 && plainRising(names)
}

// plainLeaves tells whether l may be a pack's leaves, without the package that is tried.
func plainLeaves(l []api.Leaf) bool {
	dirs := map[string]bool{"": true}
	var keys []string
	for _, leaf := range l {
		names := strings.Split(leaf.Path, "/")
		if len(names) < 2 || names[0] != "" || slices.ContainsFunc(names[1:], func(s string) bool { return !plainName(s) }) {
			return false
		}
		if len(leaf.Path) > 60 || len(leaf.Data) > 200 || leaf.Dir && len(leaf.Data) > 0 || !dirs[strings.Join(names[:len(names)-1], "/")] {
			return false
		}
		dirs[leaf.Path] = leaf.Dir
		// No byte of a name is less than this: so the keys rise byte by byte as the paths do name by name.
		keys = append(keys, strings.Join(names, "\x00"))
	}
	return len(l) <= 16 && plainRising(keys)
}

// plainValid tells whether p may be, without the package that is tried.
func plainValid(p api.Pack) bool {
	for _, n := range p.Needs {
		if n.Name == p.Ref.Name {
			return false
		}
	}
	return plainName(p.Ref.Name) && version.Check(p.Ref.Version) == api.OK && plainNeeds(p.Needs) && plainLeaves(p.Leaves)
}

// plainParts cuts a row into its parts, each a number or a text; it tells false, if it is no row.
func plainParts(row string) ([]any, bool) {
	var parts []any
	for row != "" {
		m := partForm.FindStringSubmatch(row)
		if m == nil {
			return nil, false
		}
		row = row[len(m[0]):]
		n, err := strconv.ParseUint(m[1], 10, 64)
		if err != nil || m[2] == ":" && n > uint64(len(row)) {
			return nil, false
		}
		if m[2] == ";" {
			parts = append(parts, n)
			continue
		}
		parts = append(parts, row[:n])
		row = row[n:]
	}
	return parts, true
}

// plainRead answers the pack whose row that is, without the package that is tried: it reads what may stand there, and holds what that would say against the row.
func plainRead(row string) (api.Pack, bool) {
	parts, is := plainParts(row)
	if !is {
		return api.Pack{}, false
	}
	next := func() any {
		parts = append(parts, nil)
		part := parts[0]
		parts = parts[1:]
		return part
	}
	text := func() string {
		s, _ := next().(string)
		return s
	}
	number := func() int {
		n, _ := next().(uint64)
		return int(min(n, 100))
	}
	p := api.Pack{Ref: api.Ref{Name: text()}}
	p.Ref.Version, _ = version.Read(text())
	for range number() {
		n := api.Need{Name: text()}
		n.Span, _ = span.Read(text())
		p.Needs = append(p.Needs, n)
	}
	for range number() {
		leaf := api.Leaf{Path: text()}
		leaf.Dir = number() == 1
		leaf.Data = text()
		p.Leaves = append(p.Leaves, leaf)
	}
	if !plainValid(p) || tell(partsOf(p)...) != row {
		return api.Pack{}, false
	}
	return p, true
}

// reads holds Decode of a row with its sum ahead against the second reading, and tells whether it is a pack's.
func reads(t *testing.T, row string) bool {
	t.Helper()
	want, is := plainRead(row)
	wantE := api.OK
	if !is {
		wantE = api.ErrPack
	}
	p, e := pack.Decode(sealed(row))
	if e != wantE || !alike(p, want) {
		t.Fatalf("Decode of the row %q: %v %d, not %v %d", row, p, e, want, wantE)
	}
	if !is {
		return false
	}
	if s, e := pack.Encode(p); s != sealed(row) || e != api.OK {
		t.Fatalf("Encode of Decode of the row %q: %q %d", row, s, e)
	}
	return true
}

// lists are all lists of at most n of these.
func lists[T any](n int, of ...T) [][]T {
	all := [][]T{nil}
	from := 0
	for range n {
		to := len(all)
		for _, l := range all[from:to] {
			for _, one := range of {
				all = append(all, append(slices.Clone(l), one))
			}
		}
		from = to
	}
	return all
}

// numbers answers a function that tells numbers below its argument, each time the same ones.
func numbers() func(below int) int {
	x := uint64(1)
	return func(below int) int {
		x = x*6364136223846793005 + 1442695040888963407
		return int((x >> 33) % uint64(below))
	}
}

// P9.1: CheckLeaves of all short lists of leaves that lie close together.
func TestLawLeaves(t *testing.T) {
	some := 0
	for _, l := range lists(4, leaves("/a/", "/a=", "/a/b/", "/a/b=1", "/a/b/c=", "/a-b=", "/a-b/", "/a-b/c=", "/b=", "/a/-=", "/")...) {
		want := api.OK
		if !plainLeaves(l) {
			want = api.ErrPack
		} else {
			some++
		}
		if e := pack.CheckLeaves(l); e != want {
			t.Fatalf("CheckLeaves(%v): %d", l, e)
		}
		if e := pack.Check(api.Pack{Ref: ref("q", "1"), Leaves: l}); e != want {
			t.Fatalf("Check with %v: %d", l, e)
		}
	}
	if some < 50 {
		t.Errorf("just %d may be", some)
	}
}

// P9.1: CheckNeeds, and Check, of all short lists of needs.
func TestLawNeeds(t *testing.T) {
	own := 0
	for _, l := range lists(5, append(needs("a", "aa", "b", "c", "a-b"), api.Need{Name: "d"})...) {
		is := plainNeeds(l)
		if e := pack.CheckNeeds(l); (e == api.OK) != is || e != api.OK && e != api.ErrPack {
			t.Fatalf("CheckNeeds(%v): %d", l, e)
		}
		for _, name := range []string{"a", "c", "q", "A"} {
			p := api.Pack{Ref: ref(name, "1"), Needs: l}
			if e := pack.Check(p); (e == api.OK) != plainValid(p) || e != api.OK && e != api.ErrPack {
				t.Fatalf("Check(%v): %d", p, e)
			}
			if is && !plainValid(p) && name != "A" {
				own++
			}
		}
	}
	if own < 10 {
		t.Errorf("just %d had the own name", own)
	}
}

// somePacks are packs that may be, of all sorts.
func somePacks(many int) []api.Pack {
	next := numbers()
	names := numbered(40, 3)
	texts := []string{"*", "=1", ">=1.2,<2||3.1.*", "!=1-rc1||*", "<9999.9999.9999.9999-zzzzzz999"}
	var all []api.Pack
	for len(all) < many {
		p := api.Pack{Ref: ref(names[next(10)]+"x", fmt.Sprint(next(100), ".", next(3)))}
		for n := range next(api.MaxNeeds + 1) {
			p.Needs = append(p.Needs, need(names[10*n+next(10)], texts[next(len(texts))]))
		}
		dirs := []string{""}
		for range next(api.MaxLeaves + 1) {
			leaf := api.Leaf{Path: dirs[next(len(dirs))] + "/" + string("ab-.+_09"[next(8)]) + names[next(40)], Dir: next(3) == 0}
			if leaf.Dir {
				dirs = append(dirs, leaf.Path)
			} else {
				leaf.Data = strings.Repeat(string([]byte{byte(next(256))}), next(api.MaxLeaf+1))
			}
			p.Leaves = append(p.Leaves, leaf)
		}
		slices.SortFunc(p.Leaves, func(a, b api.Leaf) int {
			return slices.Compare(strings.Split(a.Path, "/"), strings.Split(b.Path, "/"))
		})
		if plainValid(p) {
			all = append(all, p)
		}
	}
	return all
}

// P9.3, P9.4: Decode of Encode is the pack, Encode of Decode the archive.
func TestLawRound(t *testing.T) {
	for _, p := range append(somePacks(2000), good()...) {
		s, e := pack.Encode(p)
		if s != sealed(tell(partsOf(p)...)) || e != api.OK || len(s) > 6423 || pack.Check(p) != api.OK {
			t.Fatalf("Encode(%v): %q %d", p, s, e)
		}
		back, e := pack.Decode(s)
		if e != api.OK || !alike(back, p) || !pack.Same(back, p) || !pack.Same(p, back) {
			t.Fatalf("Decode of Encode(%v): %v %d", p, back, e)
		}
		if !reads(t, s[64:]) {
			t.Fatalf("no pack's row: %q", s)
		}
	}
}

// P9.3, P9.4: all short rows of parts.
func TestLawRows(t *testing.T) {
	some := 0
	for _, l := range lists(6, "1:b", "1:*", "0;", "1;", "2;", "2:/c", "0:") {
		if reads(t, "1:a1:1"+strings.Join(l, "")) {
			some++
		}
		if len(l) < 5 && reads(t, strings.Join(l, "")) {
			t.Fatalf("a pack's row: %q", l)
		}
	}
	for _, l := range lists(5, "1:", "a", "1", "0", ";", ":", "/c") {
		if reads(t, "1:a1:"+strings.Join(l, "")) || reads(t, "1:a1:10;"+strings.Join(l, "")) {
			some++
		}
	}
	if some < 10 {
		t.Errorf("just %d rows were some pack's", some)
	}
}

// P9.3, P9.4: rows of packs, each part of which becomes another one.
func TestLawOtherPart(t *testing.T) {
	others := []any{0, 1, 2, 3, 4, 5, 16, 17, uint64(math.MaxUint64), uint64(math.MaxInt64), uint64(1 << 63), uint64(1 << 32), "", " ", "a", "b", "A", "0", "1", "2", "1.2", "1.20", "*", "=1", "/", "/a", "/bin", "/bin/b", "/bin/a", "/zz/a", "\x00", "\xff", long(60), long(200), long(201)}
	some := 0
	for _, p := range append(somePacks(6), small(), greatest()) {
		for n := range partsOf(p) {
			for _, x := range others {
				parts := partsOf(p)
				parts[n] = x
				if reads(t, tell(parts...)) {
					some++
				}
			}
			for k := max(0, n-4); k < n; k++ {
				parts := partsOf(p)
				parts[n], parts[k] = parts[k], parts[n]
				reads(t, tell(parts...))
			}
		}
	}
	if some < 100 {
		t.Errorf("just %d rows were some pack's", some)
	}
}

// P9.3, P9.4: rows, and archives, of which a byte becomes another one, is left out, or stands there in addition.
func TestLawOtherByte(t *testing.T) {
	some := 0
	for _, p := range []api.Pack{small(), {Ref: ref("a", "1.0-rc1")}, {Ref: ref("q", "2"), Needs: []api.Need{need("b", "*"), need("c", "=1.2,<3||2.*")}, Leaves: leaves("/a/", "/a/b=0;1:", "/a/c/", "/a-c="+long(12))}} {
		s := sealed(tell(partsOf(p)...))
		row := s[64:]
		for n := range row {
			var all []string
			for _, c := range "019;:/ab*=.-\x00\xff" {
				x := string([]byte{byte(c)})
				all = append(all, row[:n]+x+row[n+1:], row[:n]+x+row[n:])
			}
			for _, c := range append(all, row[:n]+row[n+1:], row[:n]) {
				if reads(t, c) {
					some++
				}
				if back, e := pack.Decode(s[:64] + c); c != row && (e != api.ErrDigest || !alike(back, api.Pack{})) {
					t.Fatalf("Decode of %q with the sum of %q: %v %d", c, row, back, e)
				}
			}
		}
	}
	if some < 100 {
		t.Errorf("just %d rows were some pack's", some)
	}
}

// P9.4: just the text of the sum, as layer 3 has it, makes a row an archive.
func TestLawSum(t *testing.T) {
	for _, p := range somePacks(50) {
		row := tell(partsOf(p)...)
		sum := sha.Text(sha.Sum([]byte(row)))
		decodes(t, sum+row, p, api.OK)
		for n := range sum {
			for _, c := range "0123456789abcdefABCDEF g" {
				if byte(c) != sum[n] {
					decodes(t, sum[:n]+string(c)+sum[n+1:]+row, api.Pack{}, api.ErrDigest)
				}
			}
		}
	}
}

// P9.1: Same tells packs that may be apart just as their archives do.
func TestLawSame(t *testing.T) {
	all := append(somePacks(150), good()...)
	var archives []string
	for _, p := range all {
		s, _ := pack.Encode(p)
		archives = append(archives, s)
	}
	for n, a := range all {
		for k, b := range all {
			if got := pack.Same(a, b); got != (archives[n] == archives[k]) {
				t.Fatalf("Same(%v, %v): %v", a, b, got)
			}
		}
	}
}

// P9.2: Compare is an order, by names first.
func TestLawCompare(t *testing.T) {
	var all []api.Ref
	for _, name := range []string{"", "a", "a-b", "aa", "b", "\xff"} {
		for _, text := range []string{"0", "1-a", "1-b", "1", "1.0", "1.2", "1.10", "2"} {
			all = append(all, ref(name, text))
		}
		all = append(all, api.Ref{Name: name}, api.Ref{Name: name, Version: api.Version{Many: 7}})
	}
	for _, a := range all {
		for _, b := range all {
			want := strings.Compare(a.Name, b.Name)
			if want == 0 {
				want = version.Compare(a.Version, b.Version)
			}
			ab := pack.Compare(a, b)
			if back := pack.Compare(b, a); ab != want || back != -ab {
				t.Fatalf("Compare(%v, %v): %d, and back %d", a, b, ab, back)
			}
			for _, c := range all {
				if bc := pack.Compare(b, c); ab <= 0 && bc <= 0 && pack.Compare(a, c) != min(ab, bc) {
					t.Fatalf("of %v, %v, %v: %d %d %d", a, b, c, ab, bc, pack.Compare(a, c))
				}
			}
		}
	}
}

// P9.2: Find has each leaf of a pack, and nothing else.
func TestLawFind(t *testing.T) {
	for _, p := range somePacks(300) {
		for _, other := range somePacks(20) {
			for _, asked := range other.Leaves {
				want, is := api.Leaf{}, false
				for _, leaf := range p.Leaves {
					if leaf.Path == asked.Path {
						want, is = leaf, true
					}
				}
				if got, found := pack.Find(p.Leaves, asked.Path); got != want || found != is {
					t.Fatalf("Find(%v, %s): %v %v", p.Leaves, asked.Path, got, found)
				}
			}
		}
		for _, leaf := range p.Leaves {
			if got, is := pack.Find(p.Leaves, leaf.Path); got != leaf || !is {
				t.Fatalf("Find(%v, %s): %v %v", p.Leaves, leaf.Path, got, is)
			}
		}
	}
}

// P9.4: what a pack may be, and each answer, is the same in whatever order, and however often, it is asked.
func TestLawOrder(t *testing.T) {
	all := slices.Concat(good(), bad(), somePacks(100))
	asked := func(p api.Pack) string {
		s, e := pack.Encode(p)
		back, f := pack.Decode(s)
		return fmt.Sprint(pack.CheckRef(p.Ref), pack.CheckNeeds(p.Needs), pack.CheckLeaves(p.Leaves), pack.Check(p), s, e, bare(back), f)
	}
	var first []string
	for _, p := range all {
		first = append(first, asked(p))
	}
	for n := range all {
		back := len(all) - 1 - n
		if got := asked(all[back]); got != first[back] {
			t.Fatalf("of %v: %s, not %s", all[back], got, first[back])
		}
	}
}

// R1: no call panics, or goes on without end, at whatever it is given.
func TestRuleEnds(t *testing.T) {
	many := make([]api.Leaf, 1<<18)
	for n := range many {
		many[n] = api.Leaf{Path: "/" + strconv.Itoa(n), Data: "1"}
	}
	huge := api.Pack{Ref: api.Ref{Name: long(1 << 20), Version: api.Version{Many: math.MinInt, Tag: long(1 << 20)}}, Needs: make([]api.Need, 1<<18), Leaves: many}
	wide := api.Pack{Ref: ref("a", "1"), Needs: []api.Need{{Name: "b", Span: api.Span{Rows: make([][]api.Bound, 1<<18)}}}, Leaves: []api.Leaf{{Path: strings.Repeat("/a", 1<<20), Data: long(1 << 20)}}}
	all := slices.Concat(good(), bad(), different(), []api.Pack{huge, wide, {Ref: ref("a", "1"), Leaves: many}, {Ref: ref("a", "1"), Needs: make([]api.Need, 1<<18)}})
	for n, p := range all {
		q := all[(7*n)%len(all)]
		pack.CheckRef(p.Ref)
		pack.CheckNeeds(p.Needs)
		pack.CheckLeaves(p.Leaves)
		pack.Check(p)
		pack.Same(p, q)
		pack.Same(p, p)
		pack.Compare(p.Ref, q.Ref)
		pack.Encode(p)
		pack.Find(p.Leaves, "/q")
		pack.Find(p.Leaves, long(1<<16))
	}
	for _, piece := range []string{"0;", "0:", "1;", "1:a", "9", "18446744073709551615;", "18446744073709551615:", "9223372036854775807:", "x", ";", ":", "\x00", "\xff", tell("/c", 0, "")} {
		for _, ahead := range []string{"", "1:a", "1:a1:1", "1:a1:10;", "1:a1:14;", "1:a1:118446744073709551615;", "1:a1:10;18446744073709551615;", "1:a1:10;9223372036854775807;", "1:a1:10;9223372036854775808;"} {
			row := ahead + strings.Repeat(piece, 1<<16)
			decodes(t, sealed(row), api.Pack{}, api.ErrPack)
			decodes(t, long(64)+row, api.Pack{}, api.ErrDigest)
		}
	}
}

// deepCopy is the same pack in other memory, list by list.
func deepCopy(p api.Pack) api.Pack {
	c := api.Pack{Ref: p.Ref, Needs: slices.Clone(p.Needs), Leaves: slices.Clone(p.Leaves)}
	for n := range c.Needs {
		c.Needs[n].Span.Rows = slices.Clone(c.Needs[n].Span.Rows)
		for k, row := range c.Needs[n].Span.Rows {
			c.Needs[n].Span.Rows[k] = slices.Clone(row)
		}
	}
	return c
}

// roomy is the same pack in other memory, with room behind the end of each list, in which something stands.
func roomy(p api.Pack) api.Pack {
	c := deepCopy(p)
	bound := api.Bound{Kind: api.BdOver, Version: v("7")}
	for n := range c.Needs {
		rows := c.Needs[n].Span.Rows
		for k, row := range rows {
			rows[k] = append(row, bound, bound, bound, bound, bound)[:len(row)]
		}
		c.Needs[n].Span.Rows = append(rows, []api.Bound{bound}, nil, []api.Bound{bound, bound})[:len(rows)]
	}
	c.Needs = append(c.Needs, needs("room", "zz", "a")...)[:len(p.Needs)]
	c.Leaves = append(c.Leaves, leaves("/room/", "/room/f=1", "/zz")...)[:len(p.Leaves)]
	return c
}

// whole is all that stands in a pack's lists, and in the room behind the end of each.
func whole(p api.Pack) string {
	var say strings.Builder
	for _, n := range p.Needs[:cap(p.Needs)] {
		fmt.Fprintf(&say, "need %q %d\n", n.Name, len(n.Span.Rows))
		for _, row := range n.Span.Rows[:cap(n.Span.Rows)] {
			fmt.Fprintln(&say, "row", len(row), row[:cap(row)])
		}
	}
	for _, leaf := range p.Leaves[:cap(p.Leaves)] {
		fmt.Fprintf(&say, "leaf %q %v %q\n", leaf.Path, leaf.Dir, leaf.Data)
	}
	return say.String()
}

// spoil writes over all that a pack's lists have, and the room behind the end of each.
func spoil(p api.Pack) {
	for _, n := range p.Needs[:cap(p.Needs)] {
		for _, row := range n.Span.Rows[:cap(n.Span.Rows)] {
			for k := range row[:cap(row)] {
				row[:cap(row)][k] = api.Bound{Kind: api.BdIs, Version: v("66.6")}
			}
		}
		for k := range n.Span.Rows[:cap(n.Span.Rows)] {
			n.Span.Rows[:cap(n.Span.Rows)][k] = []api.Bound{{Kind: 99}}
		}
	}
	for n := range p.Needs[:cap(p.Needs)] {
		p.Needs[:cap(p.Needs)][n] = api.Need{Name: "spoilt"}
	}
	for n := range p.Leaves[:cap(p.Leaves)] {
		p.Leaves[:cap(p.Leaves)][n] = api.Leaf{Path: "/spoilt"}
	}
}

// answers are what all calls that are handed lists answer of p.
func answers(p api.Pack) string {
	s, e := pack.Encode(p)
	leaf, is := pack.Find(p.Leaves, "/bin/a")
	return fmt.Sprintf("%d %d %d %q %d %v %v %v %v", pack.CheckNeeds(p.Needs), pack.CheckLeaves(p.Leaves), pack.Check(p), s, e, leaf, is, pack.Same(p, small()), pack.Same(small(), p))
}

// rules are packs at which it is tried whether what is handed in stays.
func rules() []api.Pack {
	return slices.Concat(good(), bad(), different(), somePacks(200))
}

// R3: what is handed in stays as it is, the room behind a list's end, too: needs, the rows and bounds of their spans, and leaves.
func TestRuleHandedIn(t *testing.T) {
	for _, p := range rules() {
		in := roomy(p)
		ahead := whole(in)
		got := answers(in)
		pack.Same(in, in)
		if whole(in) != ahead {
			t.Fatalf("%.300v became %.300s", p, whole(in))
		}
		if want := answers(p); got != want {
			t.Fatalf("with room behind its lists %.300v answers %.300s, not %.300s", p, got, want)
		}
	}
}

// R3, R5: what was handed in is not kept: the same lists with something else in them are asked anew.
func TestRuleNotKept(t *testing.T) {
	for _, p := range rules() {
		in := roomy(p)
		want := answers(in)
		rows := deepCopy(in)
		spoil(in)
		if len(p.Needs)+len(p.Leaves) > 0 && answers(in) == want && pack.Check(p) == api.OK {
			t.Fatalf("kept of %.300v: %.300s", p, want)
		}
		copy(in.Needs, rows.Needs)
		copy(in.Leaves, rows.Leaves)
		if got := answers(in); got != want {
			t.Fatalf("asked anew of %.300v: %.300s, not %.300s", p, got, want)
		}
	}
}

// R3: what Decode answers is new memory, that of no other answer, either.
func TestRuleNewMemory(t *testing.T) {
	for _, p := range append(good(), somePacks(200)...) {
		s, _ := pack.Encode(p)
		first, e := pack.Decode(s)
		second, f := pack.Decode(s)
		if e != api.OK || f != api.OK {
			t.Fatalf("Decode(%q): %d %d", s, e, f)
		}
		spoil(first)
		if !alike(second, p) {
			t.Fatalf("two answers share memory: %v, of %v", second, p)
		}
		if third, e := pack.Decode(s); e != api.OK || !alike(third, p) {
			t.Fatalf("Decode once more: %v %d, of %v", third, e, p)
		}
		apart(t, second)
	}
}

// apart spoils one need after the other, and looks whether just that one has changed.
func apart(t *testing.T, p api.Pack) {
	t.Helper()
	for n := range p.Needs {
		was := deepCopy(p)
		spoil(api.Pack{Needs: p.Needs[n : n+1 : n+1]})
		p.Needs[n] = was.Needs[n]
		if !alike(p, was) {
			t.Fatalf("the needs of %v share memory", was)
		}
	}
}
