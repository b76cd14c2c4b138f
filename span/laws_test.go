package span_test

import (
	"math"
	"regexp"
	"slices"
	"strconv"
	"strings"
	"testing"

	"puncheon/api"
	"puncheon/span"
	"puncheon/version"
)

// What the chapter says of texts, as forms.
const (
	number  = `(?:0|[1-9][0-9]{0,3})`
	numbers = number + `(?:\.` + number + `){0,3}`
	whole   = numbers + `(?:-[a-z]{1,6}(?:[1-9][0-9]{0,2})?)?`
	one     = `(?:(?:=|!=|>=|>|<=|<)` + whole + `|` + numbers + `\.\*)`
	some    = `(?:\*|` + one + `(?:,` + one + `){0,3})`
)

// form is that of a span's text; bounds finds a bound's parts.
var (
	form   = regexp.MustCompile(`^` + some + `(?:\|\|` + some + `){0,3}$`)
	bounds = regexp.MustCompile(`^([=!<>]*)([^*]*?)(\.\*)?$`)
)

// signs are those of the kinds, at the places of their numbers.
var signs = []string{"", "=", "!=", ">=", ">", "<=", "<"}

// plainRead reads a text without the package that is tried.
func plainRead(t *testing.T, text string) (api.Span, api.Errno) {
	t.Helper()
	if !form.MatchString(text) {
		return api.Span{}, api.ErrSpan
	}
	var s api.Span
	for _, r := range strings.Split(text, "||") {
		var row []api.Bound
		for _, b := range strings.Split(r, ",") {
			if r == "*" {
				break
			}
			m := bounds.FindStringSubmatch(b)
			kind := slices.Index(signs, m[1])
			if m[3] != "" {
				kind = api.BdLike
			}
			row = append(row, api.Bound{Kind: kind, Version: v(t, m[2])})
		}
		s.Rows = append(s.Rows, row)
	}
	return s, api.OK
}

// key is a row of numbers that rises as versions that may be do.
func key(w api.Version) []int {
	k := slices.Clone(w.Numbers[:])
	out := 1
	if w.Tag != "" {
		out = 0
	}
	k = append(k, out)
	for n := range api.MaxTag {
		letter := 0
		if n < len(w.Tag) {
			letter = int(w.Tag[n])
		}
		k = append(k, letter)
	}
	return append(k, w.Step, w.Many)
}

// plainMeets tells, without the package that is tried, whether w meets b.
func plainMeets(b api.Bound, w api.Version) bool {
	order := slices.Compare(key(w), key(b.Version))
	switch b.Kind {
	case api.BdIs:
		return order == 0
	case api.BdNot:
		return order != 0
	case api.BdFrom:
		return order >= 0
	case api.BdOver:
		return order > 0
	case api.BdUpto:
		return order <= 0
	case api.BdBelow:
		return order < 0
	}
	return w.Many >= b.Version.Many && slices.Equal(w.Numbers[:b.Version.Many], b.Version.Numbers[:b.Version.Many])
}

// plainHas tells, without the package that is tried, whether a span that may be has w.
func plainHas(s api.Span, w api.Version) bool {
	for _, r := range s.Rows {
		met := 0
		for _, b := range r {
			if plainMeets(b, w) {
				met++
			}
		}
		if met == len(r) {
			return true
		}
	}
	return false
}

// someTexts are all texts of at most n of these pieces.
func someTexts(n int, pieces ...string) []string {
	all := []string{""}
	from := 0
	for range n {
		to := len(all)
		for _, s := range all[from:to] {
			for _, piece := range pieces {
				all = append(all, s+piece)
			}
		}
		from = to
	}
	return all
}

// someVersions are versions that lie close together.
func someVersions() []api.Version {
	var all []api.Version
	for _, w := range []api.Version{num(0), num(1), num(1, 0), num(1, 0, 0, 0), num(1, 1), num(1, 1, 2), num(1, 10), num(2), num(2, 0), num(9999), num(9999, 9999, 9999, 9999)} {
		all = append(all, w, tagged(w, "a", 0), tagged(w, "a", 2), tagged(w, "a", 10), tagged(w, "b", 0))
	}
	return all
}

// someBounds are bounds of each kind, and of versions that lie close together.
func someBounds() []api.Bound {
	var all []api.Bound
	for _, w := range someVersions() {
		for _, kind := range kinds {
			if kind != api.BdLike || w.Tag == "" {
				all = append(all, api.Bound{Kind: kind, Version: w})
			}
		}
	}
	return all
}

// someSpans are spans of some rows of some bounds, which go through someBounds by steps.
func someSpans(many int) []api.Span {
	list := someBounds()
	var all []api.Span
	at := 0
	for n := range many {
		var s api.Span
		for r := range n%api.MaxChoices + 1 {
			var row []api.Bound
			for range (n/api.MaxChoices + r) % (api.MaxBounds + 1) {
				at = (at + 101) % len(list)
				row = append(row, list[at])
			}
			s.Rows = append(s.Rows, row)
		}
		all = append(all, s)
	}
	return all
}

// P5.2, P5.5: texts, all short ones, are read as the chapter says; Text of Read is the text.
func TestLawRead(t *testing.T) {
	all := someTexts(6, "=", "<", "!", "1", "*", ",", "|", ".*")
	all = append(all, someTexts(5, "=1", ">=2.1", "<3-a", ">", "1.*", "2-b.*", "*", ",", "||", "|", " ", "é")...)
	all = append(all, someTexts(9, "<1", ",", "||")...)
	known := 0
	for _, c := range append(all, badTexts()...) {
		s, e := span.Read(c)
		if want, wantE := plainRead(t, c); !same(s, want) || e != wantE {
			t.Fatalf("Read(%q): %v %d, not %v %d", c, s, e, want, wantE)
		}
		if e != api.OK {
			continue
		}
		known++
		if span.Check(s) != api.OK {
			t.Fatalf("Read(%q) may not be: %v", c, s)
		}
		if got := text(t, s); got != c {
			t.Fatalf("Text of Read(%q): %q", c, got)
		}
	}
	if known < 500 {
		t.Errorf("just %d texts were some span's", known)
	}
}

// P5.1, P5.2, P5.5: Read of Text is the span.
func TestLawText(t *testing.T) {
	for _, s := range someSpans(2000) {
		c := text(t, s)
		if !form.MatchString(c) || span.Check(s) != api.OK {
			t.Fatalf("Text(%v): %q", s, c)
		}
		back, e := span.Read(c)
		if e != api.OK || !same(back, s) || !span.Same(back, s) {
			t.Fatalf("Read of Text(%v): %v %d", s, back, e)
		}
	}
}

// P5.1: Same tells spans apart just as their texts do.
func TestLawSame(t *testing.T) {
	all := someSpans(300)
	for _, a := range all {
		for _, b := range all {
			if got := span.Same(a, b); got != (text(t, a) == text(t, b)) {
				t.Fatalf("Same(%v, %v): %v", a, b, got)
			}
		}
	}
}

// P5.3: Has, of each bound alone, and of many together.
func TestLawHas(t *testing.T) {
	var all []api.Span
	for _, b := range someBounds() {
		all = append(all, of(row(b)))
	}
	for _, s := range append(all, someSpans(2000)...) {
		for _, w := range someVersions() {
			if got := span.Has(s, w); got != plainHas(s, w) {
				t.Fatalf("Has of %v in %s: %v", w, text(t, s), got)
			}
		}
	}
}

// P5.5: a bound, and that of the other sign, have each version that may be, one of both.
func TestLawOther(t *testing.T) {
	for _, w := range someVersions() {
		for _, c := range [][2]int{{api.BdIs, api.BdNot}, {api.BdFrom, api.BdBelow}, {api.BdOver, api.BdUpto}} {
			a, b := of(row(api.Bound{Kind: c[0], Version: w})), of(row(api.Bound{Kind: c[1], Version: w}))
			for _, x := range someVersions() {
				if span.Has(a, x) == span.Has(b, x) {
					t.Fatalf("%v in %s, and in %s", x, text(t, a), text(t, b))
				}
			}
		}
	}
}

// P5.4, P5.5: Both has what both have, Either what one has; each is the rows that the chapter says, or too long.
func TestLawBothEither(t *testing.T) {
	both, either := 0, 0
	all := someSpans(160)
	for _, a := range all {
		for _, b := range all {
			s, e := span.Both(a, b)
			checkRows(t, s, e, plainBoth(a, b))
			if e == api.OK {
				both++
				checkHas(t, s, func(w api.Version) bool { return span.Has(a, w) && span.Has(b, w) })
			}
			s, e = span.Either(a, b)
			checkRows(t, s, e, slices.Concat(a.Rows, b.Rows))
			if e == api.OK {
				either++
				checkHas(t, s, func(w api.Version) bool { return span.Has(a, w) || span.Has(b, w) })
			}
		}
	}
	if both < 1000 || either < 1000 {
		t.Errorf("just %d and %d were not too long", both, either)
	}
}

// plainBoth is each row of a with each row of b, in order.
func plainBoth(a, b api.Span) [][]api.Bound {
	var l [][]api.Bound
	for n := range len(a.Rows) * len(b.Rows) {
		l = append(l, slices.Concat(a.Rows[n/len(b.Rows)], b.Rows[n%len(b.Rows)]))
	}
	return l
}

// checkRows holds what was answered against the rows that it has to have.
func checkRows(t *testing.T, s api.Span, e api.Errno, rows [][]api.Bound) {
	t.Helper()
	want, wantE := api.Span{Rows: rows}, api.OK
	for _, r := range rows {
		if len(rows) > api.MaxChoices || len(r) > api.MaxBounds {
			want, wantE = api.Span{}, api.ErrLong
		}
	}
	if !same(s, want) || e != wantE {
		t.Fatalf("%v %d, not %v %d", s, e, want, wantE)
	}
}

// checkHas tells whether a span has just the versions that it has to have.
func checkHas(t *testing.T, s api.Span, has func(api.Version) bool) {
	t.Helper()
	for _, w := range someVersions() {
		if got := span.Has(s, w); got != has(w) {
			t.Fatalf("Has of %v in %s: %v", w, text(t, s), got)
		}
	}
}

// P5.3, P5.5: Pick has those that are asked for and that the span has, each once, the last ones first, whatever the order they come in.
func TestLawPick(t *testing.T) {
	asked := slices.Concat(someVersions(), badVersions(), someVersions()[:20], badVersions())
	turned := slices.Clone(asked)
	slices.Reverse(turned)
	for _, s := range someSpans(400) {
		var want []api.Version
		for _, w := range someVersions() {
			if plainHas(s, w) {
				want = append(want, w)
			}
		}
		slices.SortFunc(want, func(a, b api.Version) int { return slices.Compare(key(b), key(a)) })
		for _, l := range [][]api.Version{asked, turned} {
			if got := span.Pick(s, l...); !slices.Equal(got, want) {
				t.Fatalf("Pick(%s): %v, not %v", text(t, s), got, want)
			}
		}
		for n, w := range want {
			if n > 0 && version.Compare(want[n-1], w) != 1 {
				t.Fatalf("Pick(%s): %v is not ahead of %v", text(t, s), w, want[n-1])
			}
		}
	}
}

// R1: no call panics, or goes on without end, at whatever it is given.
func TestRuleEnds(t *testing.T) {
	all := append(bad(), someSpans(40)...)
	for _, s := range good() {
		all = append(all, s)
	}
	all = append(all, of(make([][]api.Bound, 1<<10)...), of(make([]api.Bound, 1<<16)), of(rows(4, 1<<16, bd(api.BdIs, 1))...))
	for _, n := range []int{math.MinInt, -1, 0, 8, math.MaxInt} {
		all = append(all, of(row(bd(n, n))), of(row(api.Bound{Kind: n, Version: api.Version{Many: n, Step: n}})))
	}
	few := slices.Concat(all[:40], all[len(all)-20:])
	for _, s := range all {
		span.Check(s)
		span.Text(s)
		span.Pick(s, badVersions()...)
		span.Has(s, num(1))
		for _, other := range few {
			span.Same(s, other)
			span.Both(s, other)
			span.Either(s, other)
		}
	}
	for _, piece := range []string{"=", "1", ".*", ",", "||", "|", "*", "=1,", "=1||", "*||", "-a", "é", "\xff"} {
		long := strings.Repeat(piece, 1<<20)
		for _, c := range []string{long, "=" + long, "=1" + long, "=1," + long, "*||" + long, long + ".*", "=1-a" + long} {
			if s, e := span.Read(c); len(s.Rows) != 0 || e != api.ErrSpan {
				t.Errorf("Read(%.20q..): %v %d", c, s, e)
			}
		}
	}
}

// withRoom answers the same span with room behind the end of each list, in which something stands.
func withRoom(s api.Span) api.Span {
	var c api.Span
	for _, r := range s.Rows {
		room := append(slices.Clone(r), bd(api.BdIs, 7, 7), bd(api.BdNot, 8, 8), bd(9, 9), bd(api.BdOver, 6), bd(api.BdLike, 5))
		c.Rows = append(c.Rows, room[:len(r)])
	}
	many := len(c.Rows)
	c.Rows = append(c.Rows, row(bd(api.BdIs, 7)), row(bd(api.BdIs, 8)), nil, row(), row(bd(0)))
	c.Rows = c.Rows[:many]
	return c
}

// inside is what stands in a span's lists, and in the room behind the end of each.
func inside(s api.Span) string {
	var say strings.Builder
	for _, r := range s.Rows[:cap(s.Rows)] {
		say.WriteString(strconv.Itoa(len(r)) + "(")
		for _, b := range r[:cap(r)] {
			say.WriteString(strconv.Itoa(b.Kind) + " " + strconv.Itoa(b.Version.Numbers[0]) + " " + strconv.Itoa(b.Version.Many) + b.Version.Tag + ";")
		}
		say.WriteString(")")
	}
	return say.String()
}

// spoil overwrites a row to the end of its room.
func spoil(r []api.Bound) {
	for n := range r[:cap(r)] {
		r[:cap(r)][n] = bd(api.BdIs, 66, 6)
	}
}

// R3: what is handed in stays as it is, the room behind a list's end, too.
func TestRuleHandedIn(t *testing.T) {
	list := someSpans(60)
	for _, s := range good() {
		list = append(list, s)
	}
	asked := slices.Concat(vs(t, "3", "1", "2-a"), badVersions(), vs(t, "2", "1", "0"))
	askedWas := slices.Clone(asked)
	for _, x := range list {
		for _, y := range list {
			a, b := withRoom(x), withRoom(y)
			wasA, wasB := inside(a), inside(b)
			span.Check(a)
			span.Same(a, b)
			span.Text(a)
			span.Has(a, num(1))
			span.Both(a, b)
			span.Both(b, a)
			span.Either(a, b)
			span.Either(b, a)
			span.Pick(a, asked[:len(asked)-2]...)
			if inside(a) != wasA || inside(b) != wasB {
				t.Fatalf("of %v and %v became %v and %v", x, y, a, b)
			}
			if !slices.Equal(asked, askedWas) {
				t.Fatalf("the versions became %v", asked)
			}
		}
	}
}

// R3: what is answered is new memory, and what is handed in is not kept.
func TestRuleNewMemory(t *testing.T) {
	for _, call := range []func(a, b api.Span) (api.Span, api.Errno){span.Both, span.Either} {
		for _, c := range [][2]string{{"=1,=2", "*"}, {"*", "=1,=2"}, {"=1||*||=2", "*"}, {"*", "=1||*||=2"}, {"=1,=2||=3", "=4||=5,=6"}, {"*||*", "*||*"}, {"=1", "=1"}} {
			a, b := withRoom(read(t, c[0])), withRoom(read(t, c[1]))
			s, _ := call(a, b)
			want := text(t, s)
			for _, r := range slices.Concat(a.Rows, b.Rows) {
				spoil(r)
			}
			for _, handed := range []api.Span{a, b} {
				for n := range handed.Rows[:cap(handed.Rows)] {
					handed.Rows[:cap(handed.Rows)][n] = row(bd(api.BdIs, 55))
				}
			}
			if got := text(t, s); got != want {
				t.Errorf("of %q: what was handed in was kept: %s, not %s", c, got, want)
			}
			a, b = withRoom(read(t, c[0])), withRoom(read(t, c[1]))
			s, _ = call(a, b)
			wasA, wasB := inside(a), inside(b)
			for _, r := range s.Rows[:cap(s.Rows)] {
				spoil(r)
			}
			clear(s.Rows[:cap(s.Rows)])
			if inside(a) != wasA || inside(b) != wasB {
				t.Errorf("of %q: the answer is no new memory", c)
			}
		}
	}
}

// R3: one span handed in twice is answered in new memory, row by row.
func TestRuleTwice(t *testing.T) {
	list := row(bd(api.BdIs, 1), bd(api.BdNot, 2))
	a := of(list, list[:1])
	s, e := span.Either(a, a)
	if e != api.OK || text(t, s) != "=1,!=2||=1||=1,!=2||=1" {
		t.Fatal(s, e)
	}
	checkApart(t, s)
	s, e = span.Both(a, of(nil, nil))
	if e != api.OK || text(t, s) != "=1,!=2||=1,!=2||=1||=1" {
		t.Fatal(s, e)
	}
	checkApart(t, s)
}

// R3: no two lists of one answer share any.
func TestRuleApart(t *testing.T) {
	for c := range good() {
		checkApart(t, read(t, c))
	}
	list := someSpans(80)
	for _, a := range list {
		for _, b := range list {
			for _, call := range []func(a, b api.Span) (api.Span, api.Errno){span.Both, span.Either} {
				if s, e := call(a, b); e == api.OK {
					checkApart(t, s)
				}
			}
		}
	}
}

// checkApart spoils row by row, and looks whether just that row has changed.
func checkApart(t *testing.T, s api.Span) {
	t.Helper()
	for n, r := range s.Rows {
		was := deep(s)
		spoil(r)
		for k := range s.Rows {
			if k != n && !slices.Equal(s.Rows[k], was.Rows[k]) {
				t.Fatalf("rows %d and %d of %v share memory", n, k, was)
			}
		}
		copy(r, was.Rows[n])
	}
}

// R3: the versions of Pick are new memory, and those that are handed in are not kept.
func TestRulePick(t *testing.T) {
	for _, c := range []string{"*", ">1", "=7"} {
		s := read(t, c)
		asked := vs(t, "3", "1", "3", "2")
		first, second := span.Pick(s, asked...), span.Pick(s, asked...)
		want := slices.Clone(first)
		clear(asked)
		if !slices.Equal(first, want) || !slices.Equal(second, want) {
			t.Errorf("%s: the versions were kept: %v %v", c, first, second)
		}
		asked = vs(t, "3", "1", "3", "2")
		clear(first[:cap(first)])
		if !slices.Equal(asked, vs(t, "3", "1", "3", "2")) || !slices.Equal(second, want) || !slices.Equal(span.Pick(s, asked...), want) {
			t.Errorf("%s: the answer is no new memory: %v %v", c, asked, second)
		}
	}
}
