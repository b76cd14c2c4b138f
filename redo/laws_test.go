package redo_test

import (
	"fmt"
	"regexp"
	"slices"
	"strconv"
	"strings"
	"testing"

	"puncheon/api"
	"puncheon/redo"
	"puncheon/tree"
)

// numbers answers a function that tells numbers below its argument, each time the same ones.
func numbers() func(below int) int {
	x := uint64(1)
	return func(below int) int {
		x = x*6364136223846793005 + 1442695040888963407
		return int((x >> 33) % uint64(below))
	}
}

// up is a path without its last name.
func up(p string) string {
	return p[:max(1, strings.LastIndex(p, "/"))]
}

// ahead tells in which order two paths stand: nothing that a name has is less than what stands here in the place of /.
func ahead(p, q string) int {
	return strings.Compare(strings.ReplaceAll(p, "/", "\x00"), strings.ReplaceAll(q, "/", "\x00"))
}

// plain is a tree that goes on as the chapter says, in the plainest way: what stands where, and all that was done.
type plain struct {
	at  map[string]api.Item
	ops []api.Op
}

func plainOf(now api.Tree) plain {
	p := plain{at: map[string]api.Item{}}
	for _, item := range now.Items {
		p.at[item.Path] = item
	}
	return p
}

// under are the paths under dir at which something stands, from the last one to the first.
func (p *plain) under(dir string) []string {
	var l []string
	for q := range p.at {
		if q == dir || strings.HasPrefix(q, dir+"/") {
			l = append(l, q)
		}
	}
	slices.SortFunc(l, func(a, b string) int { return ahead(b, a) })
	return l
}

func (p *plain) clear(dir string) {
	for _, q := range p.under(dir) {
		kind := api.OpUnlink
		if p.at[q].Kind == api.KDir {
			kind = api.OpRmdir
		}
		p.ops = append(p.ops, api.Op{Kind: kind, Path: q})
		delete(p.at, q)
	}
}

func (p *plain) isDir(q string) bool {
	return q == "/" || p.at[q].Kind == api.KDir
}

func (p *plain) put(item api.Item) bool {
	there, is := p.at[item.Path]
	if is && there == item {
		return true
	}
	if !p.isDir(up(item.Path)) {
		return false
	}
	if item.Kind != api.KFile || there.Kind != api.KFile {
		p.clear(item.Path)
	}
	kinds := []int{0, api.OpMkdir, api.OpWrite, api.OpLink}
	p.ops = append(p.ops, api.Op{Kind: kinds[item.Kind], Path: item.Path, Data: item.Data})
	p.at[item.Path] = item
	return len(p.at) <= api.MaxItems
}

func (p *plain) move(from, to string) bool {
	if _, is := p.at[from]; !is {
		return true
	}
	p.clear(to)
	for _, q := range p.under(from) {
		item := p.at[q]
		delete(p.at, q)
		item.Path = to + strings.TrimPrefix(q, from)
		if strings.Count(item.Path, "/") > api.MaxDepth {
			return false
		}
		p.at[item.Path] = item
	}
	p.ops = append(p.ops, api.Op{Kind: api.OpMove, Path: from, To: to})
	return p.isDir(up(to))
}

// redo does one that may be, and tells whether it is not stuck.
func (p *plain) redo(r api.Redo) bool {
	switch r.Kind {
	case api.RePut:
		return p.put(r.Item)
	case api.ReMove:
		return p.move(r.Item.Path, r.To)
	}
	p.clear(r.Item.Path)
	return true
}

func (p *plain) tree() api.Tree {
	var now api.Tree
	for _, item := range p.at {
		now.Items = append(now.Items, item)
	}
	slices.SortFunc(now.Items, func(a, b api.Item) int { return ahead(a.Path, b.Path) })
	return now
}

// plainApply is the second reading of P12.3, of a tree and redos that may be.
func plainApply(now api.Tree, l []api.Redo) (api.Tree, []api.Op, api.Errno) {
	p := plainOf(now)
	for _, r := range l {
		if !p.redo(r) {
			return api.Tree{}, nil, api.ErrStuck
		}
	}
	return p.tree(), p.ops, api.OK
}

// holds applies redos that may be, holds what is answered against the second reading, and tells whether none was stuck.
func holds(t *testing.T, now api.Tree, l ...api.Redo) bool {
	t.Helper()
	want, wantOps, wantE := plainApply(now, l)
	after, all, e := redo.Apply(now, l)
	if e != wantE || !slices.Equal(after.Items, want.Items) || !slices.Equal(all, wantOps) {
		wrong(t, "Apply(%v, %v): %v %v %v, not %v %v %v", now, l, after, all, e, want, wantOps, wantE)
	}
	if behind, many, f := tree.Run(now, all); e == api.OK && (f != api.OK || many != len(all) || !tree.Same(behind, after)) {
		wrong(t, "Apply(%v, %v): %v: of these %v have no error: %v", now, l, all, many, f)
	}
	if len(l) != 1 {
		return e == api.OK
	}
	if all, e := redo.Ops(now, l[0]); e != wantE || !slices.Equal(all, wantOps) {
		wrong(t, "Ops(%v, %v): %v %v, not %v %v", now, l[0], all, e, wantOps, wantE)
	}
	return e == api.OK
}

// at are all items at p, with these beneath a directory, and none.
func at(p string, beneath ...api.Tree) []api.Tree {
	l := []api.Tree{{}, of(file(p, "")), of(file(p, "12")), of(file(p, "1")), of(link(p, "12"))}
	for _, now := range beneath {
		l = append(l, of(append([]api.Item{dir(p)}, now.Items...)...))
	}
	return l
}

// small are all trees of a few items; the names are such that those beneath stand ahead of those beside, though / is greater than - .
func small() []api.Tree {
	var l []api.Tree
	for _, a := range at("/a", at("/a/b", at("/a/b/c", api.Tree{})...)...) {
		for _, b := range at("/a-", at("/a-/b", api.Tree{})...) {
			l = append(l, of(slices.Concat(a.Items, b.Items)...))
		}
	}
	return l
}

// few are some redos that may be, of paths of small trees and beside them.
func few() []api.Redo {
	var l []api.Redo
	paths := []string{"/a", "/a/b", "/a/b/c", "/a/b/c/d", "/a/c", "/a-", "/a-/b", "/b", "/b/c"}
	for _, p := range paths {
		l = append(l, put(dir(p)), put(file(p, "")), put(file(p, "12")), put(link(p, "12")), put(link(p, "1")), drop(p))
		for _, to := range paths {
			if !strings.HasPrefix(p+"/", to+"/") && !strings.HasPrefix(to+"/", p+"/") {
				l = append(l, move(p, to))
			}
		}
	}
	return l
}

// P12.2, P12.3, P12.6: each of few redos at each small tree, and two of them.
func TestLawShort(t *testing.T) {
	fine, next := 0, numbers()
	for _, now := range small() {
		for _, r := range few() {
			if holds(t, now, r) {
				fine++
			}
			holds(t, now, r, few()[next(len(few()))])
		}
	}
	if fine < 3000 {
		t.Errorf("just %d were not stuck", fine)
	}
}

// P12.3, P12.6: rows of few redos, of which all but some are not stuck.
func TestLawRows(t *testing.T) {
	next, fine, trees := numbers(), 0, small()
	all := few()
	for range 20000 {
		now := trees[next(len(trees))]
		var l []api.Redo
		for range next(12) {
			r := all[next(len(all))]
			if _, _, e := plainApply(now, append(slices.Clone(l), r)); e == api.OK || next(20) == 0 {
				l = append(l, r)
			}
		}
		if holds(t, now, l...) {
			fine++
		}
	}
	if fine < 10000 {
		t.Errorf("just %d rows were not stuck", fine)
	}
}

// plainBetween is the second reading of P12.4.
func plainBetween(a, b api.Tree) []api.Redo {
	atA, atB := plainOf(a).at, plainOf(b).at
	dropped := map[string]bool{}
	for p, item := range atA {
		dropped[p] = atB[p].Kind != item.Kind
	}
	isUnder := func(p string) bool {
		for ; p != "/"; p = up(p) {
			if dropped[p] {
				return true
			}
		}
		return false
	}
	var l []api.Redo
	for _, item := range a.Items {
		if dropped[item.Path] && !isUnder(up(item.Path)) {
			l = append(l, drop(item.Path))
		}
	}
	for _, item := range b.Items {
		if atA[item.Path] != item || isUnder(item.Path) {
			l = append(l, put(item))
		}
	}
	return l
}

// between asks what lies between a and b, and holds all that P12.4 and P12.6 say of it.
func between(t *testing.T, a, b api.Tree) {
	t.Helper()
	l, e := redo.Between(a, b)
	if e != api.OK || !slices.Equal(l, plainBetween(a, b)) || slices.Equal(a.Items, b.Items) != (len(l) == 0) {
		wrong(t, "Between(%v, %v): %v %v, not %v", a, b, l, e, plainBetween(a, b))
	}
	holds(t, a, l...)
	reaches := func(left api.Tree) {
		t.Helper()
		if after, _, e := redo.Apply(left, l); e != api.OK || !slices.Equal(after.Items, b.Items) {
			wrong(t, "from %v, by %v: from %v to %v %v, not %v", a, l, left, after, e, b)
		}
	}
	reaches(a)
	reaches(b)
	_, all, _ := redo.Apply(a, l)
	for n, op := range all {
		left, _, _ := tree.Run(a, all[:n])
		reaches(left)
		if op.Kind != api.OpWrite {
			continue
		}
		for cut := range len(op.Data) {
			half := op
			half.Data = op.Data[:cut]
			left, many, e := tree.Run(a, append(slices.Clone(all[:n]), half))
			if many != n+1 || e != api.OK {
				wrong(t, "%v: %v %v", half, many, e)
			}
			reaches(left)
		}
	}
	s, e := redo.Encode(l)
	if back, f := redo.Decode(s); e != api.OK || f != api.OK || s != tell(l...) || !slices.Equal(back, l) {
		wrong(t, "Decode of Encode(%v): %v %v %v %v", l, s, e, back, f)
	}
}

// P12.4 to P12.6: between all small trees.
func TestLawBetween(t *testing.T) {
	all := small()
	for _, a := range all {
		for _, b := range all {
			between(t, a, b)
		}
	}
}

// grown is a tree of at most so many items.
func grown(next func(int) int, many int) api.Tree {
	now := api.Tree{}
	for range many {
		p := ""
		for range 1 + next(4) {
			p += "/" + []string{"a", "b", "a-", "a.b", "0"}[next(5)]
		}
		r := []api.Redo{put(dir(p)), put(dir(p)), put(file(p, strings.Repeat("1", next(4)))), put(link(p, "x"))}[next(4)]
		if after, _, e := plainApply(now, row(r)); e == api.OK {
			now = after
		}
	}
	return now
}

// P12.4 to P12.6: between trees of more items, that have little in common, or much.
func TestLawBetweenGrown(t *testing.T) {
	next := numbers()
	for n := range 60 {
		a := grown(next, 10+n)
		between(t, a, grown(next, 10+n))
		b := a
		for range 4 {
			b, _, _ = plainApply(b, plainBetween(b, grown(next, 10+n))[:1])
		}
		between(t, a, b)
		between(t, b, a)
	}
}

// P12.6: from a full tree to another one, behind some numbers of operations.
func TestLawBetweenFull(t *testing.T) {
	a, b := crowd(api.MaxItems), crowd(api.MaxItems)
	for n := range b.Items[1:] {
		switch n % 4 {
		case 0:
			b.Items[n+1].Data += "new"
		case 1:
			b.Items[n+1].Kind, b.Items[n+1].Data = api.KLink, "x"
		case 2:
			b.Items[n+1].Path += "-"
		}
	}
	l, e := redo.Between(a, b)
	if e != api.OK || !slices.Equal(l, plainBetween(a, b)) {
		t.Fatalf("Between: %d %d", len(l), e)
	}
	_, all, _ := redo.Apply(a, l)
	for _, n := range []int{0, 1, 999, 1000, 1001, 1002, 1003, len(all) - 1, len(all)} {
		left, _, _ := tree.Run(a, all[:n])
		if after, _, e := redo.Apply(left, l); e != api.OK || !slices.Equal(after.Items, b.Items) {
			t.Errorf("behind %d: %d %d", n, len(after.Items), e)
		}
	}
}

// plainRead is what s says, and whether it is a row of redos that may be, without the packages that are tried but for Check.
func plainRead(s string) ([]api.Redo, bool) {
	var l []api.Redo
	is := true
	cut := func(pattern string) string {
		m := regexp.MustCompile(`^(0|[1-9][0-9]{0,8})` + pattern).FindStringSubmatch(s)
		if m == nil {
			is, s = false, ""
			return "0"
		}
		s = s[len(m[0]):]
		return m[1]
	}
	number := func() int {
		n, _ := strconv.Atoi(cut(";"))
		return n
	}
	text := func() string {
		n, _ := strconv.Atoi(cut(":"))
		if n > len(s) {
			is, n = false, len(s)
		}
		x := s[:n]
		s = s[n:]
		return x
	}
	for is && s != "" {
		r := api.Redo{Kind: number(), Item: api.Item{Path: text()}}
		if r.Kind == 1 {
			r.Item.Kind = number()
			r.Item.Data = text()
		}
		if r.Kind == 3 {
			r.To = text()
		}
		is = is && redo.Check(r) == api.OK
		l = append(l, r)
	}
	return l, is
}

// readsAs holds Decode of s against the second reading, and tells whether it is a row.
func readsAs(t *testing.T, s string) bool {
	t.Helper()
	want, is := plainRead(s)
	if !is {
		noRow(t, s)
		return false
	}
	encodes(t, s, want...)
	return true
}

// P12.5: all short rows of parts.
func TestLawParts(t *testing.T) {
	pieces := []string{"1;", "2;", "3;", "0;", "4;", "2:/a", "2:/b", "4:/a/b", "0:", "1:x"}
	all := []string{""}
	some, from := 0, 0
	for range 5 {
		to := len(all)
		for _, s := range all[from:to] {
			for _, piece := range pieces {
				all = append(all, s+piece)
			}
		}
		from = to
	}
	for _, s := range all {
		if readsAs(t, s) {
			some++
		}
	}
	if some < 60 {
		t.Errorf("just %d were rows", some)
	}
}

// P12.5: rows of which a byte becomes another one, is left out, or stands there in addition.
func TestLawOtherByte(t *testing.T) {
	some := 0
	for _, l := range [][]api.Redo{row(put(dir("/a"))), row(put(file("/a/f", "1;2:/a2;0:")), drop("/a")), row(drop("/a/b"), move("/a/b", "/b"), put(link("/a", "/a")))} {
		s := tell(l...)
		for n := range s {
			all := []string{s[:n], s[:n] + s[n+1:]}
			for _, c := range " ;:/012349abAF.-\x00\n\xff" {
				x := string([]byte{byte(c)})
				all = append(all, s[:n]+x+s[n+1:], s[:n]+x+s[n:])
			}
			for _, c := range all {
				if readsAs(t, c) {
					some++
				}
			}
		}
	}
	if some < 60 {
		t.Errorf("just %d were rows", some)
	}
}

// answers are what all calls answer of trees and redos.
func answers(a, b api.Tree, l []api.Redo) string {
	var s strings.Builder
	for _, r := range l[:min(len(l), 20)] {
		all, e := redo.Ops(a, r)
		fmt.Fprint(&s, redo.Check(r), all, e)
	}
	after, all, e := redo.Apply(a, l)
	fmt.Fprint(&s, after, all, e)
	l, e = redo.Between(a, b)
	fmt.Fprint(&s, l, e)
	text, e := redo.Encode(l)
	fmt.Fprint(&s, text, e)
	l, e = redo.Decode(text)
	fmt.Fprint(&s, l, e)
	return s.String()
}

// asked is what is asked in the tests of the rules: two trees, and redos.
type asked struct {
	a, b api.Tree
	l    []api.Redo
}

func someAsked() []asked {
	l := []asked{{}, {some(), api.Tree{}, nil}, {api.Tree{}, some(), good()[:1]}, {some(), some(), few()}, {some(), badTrees()[2], bad()[:9]}, {badTrees()[3], some(), good()[:3]}, {crowd(30), crowd(20), row(drop("/d"), move("/d", "/e"))}}
	next, trees, all := numbers(), small(), few()
	for range 200 {
		x := asked{a: trees[next(len(trees))], b: trees[next(len(trees))]}
		for range next(5) {
			x.l = append(x.l, all[next(len(all))])
		}
		l = append(l, x, asked{x.a, x.b, plainBetween(x.a, x.b)})
	}
	return l
}

// R5: each answer is the same in whatever order, and however often, it is asked.
func TestRuleOrder(t *testing.T) {
	all := someAsked()
	var first []string
	for _, x := range all {
		first = append(first, answers(x.a, x.b, x.l))
	}
	for n, want := range slices.Backward(first) {
		if got := answers(all[n].a, all[n].b, all[n].l); got != want {
			t.Fatalf("%d: %s, not %s", n, got, want)
		}
	}
}

// R1: no call panics, or goes on without end, at whatever it is given.
func TestRuleEnds(t *testing.T) {
	long := bytes(1 << 20)
	huge := api.Redo{Kind: 1 << 40, Item: api.Item{Path: long, Kind: -1 << 40, Data: long}, To: long}
	rows := [][]api.Redo{{huge}, make([]api.Redo, 1<<16), slices.Repeat(few(), 100), bad(), slices.Repeat(row(put(dir("/a")), move("/a", "/b")), api.MaxRedos/2)}
	for kind := range 5 {
		huge.Kind = kind
		rows = append(rows, row(huge), row(put(dir("/a")), huge))
	}
	for _, now := range append(badTrees(), api.Tree{}, some(), crowd(api.MaxItems), api.Tree{Items: make([]api.Item, 1<<16)}) {
		for _, l := range rows {
			redo.Apply(now, l)
			redo.Ops(now, l[0])
			redo.Check(l[0])
			redo.Encode(l)
		}
		redo.Between(now, crowd(api.MaxItems))
		redo.Between(crowd(api.MaxItems), now)
	}
	for _, piece := range []string{"0", "9", "1", ";", ":", "/", "\xff", "1;", "2;", "3;", "1:", "0:", "9:", "2:/a", "2;2:/a", "1;2:/a1;0:"} {
		for _, ahead := range []string{"", "2;2:/a", "1;", "2;", "1;2:/a", "1;2:/a2;", "3;2:/a"} {
			noRow(t, ahead+strings.Repeat(piece, 1<<16))
		}
	}
}

// roomy is the same list in other memory, with room behind its end, in which others stand.
func roomy[T any](l []T, others ...T) []T {
	return append(append(make([]T, 0, len(l)+len(others)), l...), others...)[:len(l)]
}

// spoil writes over all of a list, and the room behind its end.
func spoil[T any](l []T, by T) {
	for n := range l[:cap(l)] {
		l[:cap(l)][n] = by
	}
}

// R3: what is handed in stays as it is, the room behind a list's end, too, and is not kept.
func TestRuleHandedIn(t *testing.T) {
	for _, x := range someAsked() {
		want := answers(x.a, x.b, x.l)
		a, b, l := roomy(x.a.Items, dir("/room"), dir("/a")), roomy(x.b.Items, dir("/room"), dir("/a")), roomy(x.l, drop("/room"), drop("/a"))
		whole := func() string { return fmt.Sprint(a[:cap(a)], b[:cap(b)], l[:cap(l)]) }
		ahead := whole()
		if got := answers(of(a...), of(b...), l); got != want || whole() != ahead {
			t.Fatalf("with room: %s %s, not %s %s", got, whole(), want, ahead)
		}
		// The same lists with something else in them are asked anew.
		spoil(a, dir("/spoilt"))
		spoil(b, dir("/b"))
		spoil(l, put(dir("/spoilt")))
		if got, want := answers(of(a...), of(b...), l), answers(of(slices.Clone(a)...), of(slices.Clone(b)...), slices.Clone(l)); got != want {
			t.Fatalf("asked anew: %s, not %s", got, want)
		}
	}
}

// R3: what is answered is new memory, and what was handed in is not kept.
func TestRuleNew(t *testing.T) {
	for _, x := range someAsked() {
		a, b, l := roomy(x.a.Items, dir("/room")), roomy(x.b.Items, dir("/room")), roomy(x.l, drop("/room"))
		ask := func() (api.Tree, []api.Op, []api.Op, []api.Redo, []api.Redo) {
			after, all, _ := redo.Apply(api.Tree{Items: a}, l)
			var one []api.Op
			if len(l) > 0 {
				one, _ = redo.Ops(api.Tree{Items: a}, l[0])
			}
			lie, _ := redo.Between(api.Tree{Items: a}, api.Tree{Items: b})
			s, _ := redo.Encode(lie)
			read, _ := redo.Decode(s)
			return after, all, one, lie, read
		}
		want := fmt.Sprint(ask())
		after, all, one, lie, read := ask()
		first, firstAll, firstOne, firstLie, firstRead := ask()
		spoil(first.Items, dir("/spoilt"))
		spoil(firstAll, api.Op{Path: "/spoilt"})
		spoil(firstOne, api.Op{Path: "/spoilt"})
		spoil(firstLie, drop("/spoilt"))
		spoil(firstRead, drop("/spoilt"))
		if got := fmt.Sprint(ask()); got != want || !slices.Equal(a, x.a.Items) || !slices.Equal(b, x.b.Items) || !slices.Equal(l, x.l) {
			t.Fatalf("an answer shares memory with what was handed in: %s, not %s", got, want)
		}
		spoil(a, dir("/spoilt"))
		spoil(b, dir("/spoilt"))
		spoil(l, drop("/spoilt"))
		if got := fmt.Sprint(after, all, one, lie, read); got != want {
			t.Fatalf("an answer shares memory: %s, not %s", got, want)
		}
	}
}
