package span_test

import (
	"math"
	"slices"
	"strings"
	"testing"

	"puncheon/api"
	"puncheon/span"
	"puncheon/version"
)

// num answers the version of these numbers.
func num(numbers ...int) api.Version {
	v := api.Version{Many: len(numbers)}
	copy(v.Numbers[:], numbers)
	return v
}

// tagged answers v with this Tag and Step.
func tagged(v api.Version, tag string, step int) api.Version {
	v.Tag, v.Step = tag, step
	return v
}

// bd answers the bound of a kind, and of the version of these numbers.
func bd(kind int, numbers ...int) api.Bound {
	return api.Bound{Kind: kind, Version: num(numbers...)}
}

// row is a row of these bounds.
func row(l ...api.Bound) []api.Bound {
	return l
}

// of answers the span of these rows.
func of(rows ...[]api.Bound) api.Span {
	return api.Span{Rows: rows}
}

// kinds are all kinds of bounds.
var kinds = []int{api.BdIs, api.BdNot, api.BdFrom, api.BdOver, api.BdUpto, api.BdBelow, api.BdLike}

// good are spans that may be, each with its text.
func good() map[string]api.Span {
	from, below := bd(api.BdFrom, 1, 2), bd(api.BdBelow, 2)
	return map[string]api.Span{
		"=1":                             of(row(bd(api.BdIs, 1))),
		"!=2":                            of(row(bd(api.BdNot, 2))),
		">=1.2":                          of(row(from)),
		">0":                             of(row(bd(api.BdOver, 0))),
		"<=1.2.3.4":                      of(row(bd(api.BdUpto, 1, 2, 3, 4))),
		"<2":                             of(row(below)),
		"1.2.*":                          of(row(bd(api.BdLike, 1, 2))),
		"0.*":                            of(row(bd(api.BdLike, 0))),
		"9999.0.0.9999.*":                of(row(bd(api.BdLike, 9999, 0, 0, 9999))),
		"=9999.9999.9999.9999-zzzzzz999": of(row(api.Bound{Kind: api.BdIs, Version: tagged(num(9999, 9999, 9999, 9999), "zzzzzz", 999)})),
		"!=1-a":                          of(row(api.Bound{Kind: api.BdNot, Version: tagged(num(1), "a", 0)})),
		">=1-a1":                         of(row(api.Bound{Kind: api.BdFrom, Version: tagged(num(1), "a", 1)})),
		">1.0-rc10":                      of(row(api.Bound{Kind: api.BdOver, Version: tagged(num(1, 0), "rc", 10)})),
		"<=3-b":                          of(row(api.Bound{Kind: api.BdUpto, Version: tagged(num(3), "b", 0)})),
		"<3-b2":                          of(row(api.Bound{Kind: api.BdBelow, Version: tagged(num(3), "b", 2)})),
		"*":                              of(nil),
		"*||*":                           of(nil, row()),
		"*||*||*||*":                     of(nil, nil, row(), nil),
		"*||=1":                          of(nil, row(bd(api.BdIs, 1))),
		"=1||*":                          of(row(bd(api.BdIs, 1)), row()),
		">=1.2,<2":                       of(row(from, below)),
		"<2,>=1.2":                       of(row(below, from)),
		"<2||>=1.2":                      of(row(below), row(from)),
		"=1,=1":                          of(row(bd(api.BdIs, 1), bd(api.BdIs, 1))),
		"=1||=1":                         of(row(bd(api.BdIs, 1)), row(bd(api.BdIs, 1))),
		"1.*,!=1.2,1.2.*":                of(row(bd(api.BdLike, 1), bd(api.BdNot, 1, 2), bd(api.BdLike, 1, 2))),
		">=1.2,<2||=3.1":                 of(row(from, below), row(bd(api.BdIs, 3, 1))),
		"=1,!=2,>=3,>4":                  of(row(bd(api.BdIs, 1), bd(api.BdNot, 2), bd(api.BdFrom, 3), bd(api.BdOver, 4))),
		"=1||<2||2.*||>4":                of(row(bd(api.BdIs, 1)), row(below), row(bd(api.BdLike, 2)), row(bd(api.BdOver, 4))),
		"<=5,<6,7.*,=8||*":               of(row(bd(api.BdUpto, 5), bd(api.BdBelow, 6), bd(api.BdLike, 7), bd(api.BdIs, 8)), nil),
		full("=1"):                       of(rows(4, 4, bd(api.BdIs, 1))...),
		full("12.34.5.*"):                of(rows(4, 4, bd(api.BdLike, 12, 34, 5))...),
		"*||" + four(">10"):              of(nil, rows(1, 4, bd(api.BdOver, 10))[0]),
	}
}

// four is the text of a row of four times this bound.
func four(bound string) string {
	return strings.Join(slices.Repeat([]string{bound}, 4), ",")
}

// full is the text of a span of four rows of four times this bound.
func full(bound string) string {
	return strings.Join(slices.Repeat([]string{four(bound)}, 4), "||")
}

// rows are so many rows of so many times this bound.
func rows(many, bounds int, b api.Bound) [][]api.Bound {
	var l [][]api.Bound
	for range many {
		l = append(l, slices.Repeat(row(b), bounds))
	}
	return l
}

// badVersions are versions that may not be.
func badVersions() []api.Version {
	behind := num(1)
	behind.Numbers[1] = 2
	all := []api.Version{{}, behind, num(10000), num(1, -1), num(1, 2, 3, math.MaxInt), tagged(num(1), "", 1), tagged(num(1), "A", 0), tagged(num(1), "rc", 1000), tagged(num(1), "rc", -1), tagged(num(1), "abcdefg", 0), tagged(num(1), "é", 0), tagged(num(1), "\xff", 0)}
	for _, many := range []int{0, 5, -1, math.MaxInt, math.MinInt} {
		v := num(1, 2, 3, 4)
		v.Many = many
		all = append(all, v)
	}
	return all
}

// badBounds are bounds that may not stand in a span.
func badBounds() []api.Bound {
	all := []api.Bound{{}}
	for _, kind := range []int{0, 8, 9, -1, -7, 1 << 32, 1<<32 + 1, math.MaxInt, math.MinInt} {
		all = append(all, bd(kind, 1), bd(kind, 1, 2, 3, 4))
	}
	for _, kind := range kinds {
		for _, v := range badVersions() {
			all = append(all, api.Bound{Kind: kind, Version: v})
		}
	}
	for _, tag := range []string{"a", "rc", "zzzzzz"} {
		for _, step := range []int{0, 1, 999} {
			all = append(all, api.Bound{Kind: api.BdLike, Version: tagged(num(1, 2), tag, step)})
		}
	}
	return all
}

// bad are spans that may not be.
func bad() []api.Span {
	is := bd(api.BdIs, 1)
	all := []api.Span{{}, of(), {Rows: [][]api.Bound{}}}
	for _, many := range []int{5, 6, 100} {
		all = append(all, of(rows(many, 0, is)...), of(rows(many, 1, is)...), of(rows(many, 4, is)...), of(make([][]api.Bound, many)...))
		all = append(all, of(slices.Repeat(row(is), many)), of(row(is), slices.Repeat(row(is), many)), of(slices.Repeat(row(is), many), nil), of(nil, nil, nil, slices.Repeat(row(is), many)))
	}
	for _, b := range badBounds() {
		all = append(all, of(row(b)), of(row(b, is)), of(row(is, b)), of(row(is, is, is, b)), of(row(b), row(is)), of(nil, row(b)), of(row(is), nil, nil, row(is, is, b, is)), of(row(b), nil))
	}
	return all
}

// badTexts are the texts of no span that may be.
func badTexts() []string {
	all := []string{
		"", ",", "||", "|", "|||", "||||", "|||||", ",,", ",||,", "*,", ",*", "*||", "||*", "*|", "|*", "*|*", "*|||*", "*||||*", "**", "***", "* ", " *", "*||* ", "* || *", "*,*", "*,=1", "=1,*", "*=1", "=1*", "=*", "!=*", ">=*", ">*", "<=*", "<*", ".*", "*.*", "*.",
		"=1,", ",=1", "=1,,=2", "=1,||=2", "=1||,=2", "=1||", "||=1", "=1||||=2", "=1|||=2", "=1|=2", "=1|", "|=1", ">=1.2,", ">=1,<2|", "=1,=2||", "||=1,=2", "=1&=2", "=1;=2", "=1 =2", "=1=2", "=1>2",
		"=", "!=", ">=", ">", "<=", "<", "!", "!1", "~1", "^1", "==1", "===1", "!==1", "=!1", "=>1", "=<1", ">>1", "<<1", "<>1", "><1", ">==1", "<==1", "!!=1", "!>1", "<>", "=>", "1=", "1>=", "1.2", "1", "1-rc", "1.2||=1", "=1||1.2", "=1,1.2", "1.2,=1",
		" =1", "=1 ", "= 1", "=1 ,=2", "=1, =2", "=1 || =2", "=1|| =2", "=1 ||=2", "> =1", "=1\n", "\n=1", "\t=1", "=1\x00", "\x00", "=\x001", "1. *", "1 .*", "1.* ", " 1.*",
		"1.2-rc.*", "1-a.*", "1-a1.*", "1.2.3.4-zzzzzz999.*", "1.*-rc", "1.2-*", "1-rc*", "1*", "1.2*", "1..*", "1.*.", "1.*.*", "1.2.**", "1.*.2", "*.1", "1.*2", "..*", "1.2.3.4.5.*", "1.2.3.4.*.*", "01.*", "10000.*", "v1.*",
		"=1.*", "!=1.*", ">=1.*", ">1.*", "<=1.*", "<1.*", "=1.2.*", "<2.0.*,=1",
		"=01", "=1.02", "=1.2.3.4.5", "=10000", "=1-", "=1-rc0", "=1-rc1000", "=1-abcdefg", "=1-A", "=-1", "=+1", "=1.", "=.1", "=1..2", "=a", "=rc1", "=1_2", "=0x1",
		"=é", "é", "=1é", "é=1", "=1\xff", "\xff=1", "\x80", "\xff", "=1\x80", "=1,\xff", "=1||\xc3\xa9", "≥1", "≠1", "≤1", "＝1", "=１", "1.＊", "1．*", "=1，=2", "=1‖=2", "=1-а", "\xbd1", "=\xb1",
		"=1,=2,=3,=4,=5", "*||*||*||*||*", "=1||=2||=3||=4||=5", four("=1") + ",=1", four("=1") + "||" + four("<1") + ",<1", full("=1") + "||=1", full("=1") + "||*", full("=1") + ",=1", "*||" + full("1.*"), full("=1") + "||", full("=1") + ",",
		strings.Repeat("=", 1<<16), strings.Repeat("=1,", 1<<16) + "=1", strings.Repeat("=1||", 1<<16) + "=1", strings.Repeat("|", 1<<16), strings.Repeat("*", 1<<16), strings.Repeat("1", 1<<16) + ".*", "=1-" + strings.Repeat("a", 1<<16),
	}
	for n := range 256 {
		c := string([]byte{byte(n)})
		all = append(all, c+",", "*"+c, c+"*", "*"+c+"=1")
		if c != "*" {
			all = append(all, c, "=1||"+c)
		}
		if n < '0' || '9' < n {
			all = append(all, "="+c, "=1"+c, "<"+c, c+".*", "1"+c+".*")
		}
		if !strings.Contains("=<>", c) {
			all = append(all, c+"1", "=2,"+c+"1", "*||"+c+"1")
		}
		if !strings.Contains("!<>", c) {
			all = append(all, c+"=1")
		}
	}
	return all
}

// v answers the version of a text that is known to be one's.
func v(t *testing.T, text string) api.Version {
	t.Helper()
	x, e := version.Read(text)
	if e != api.OK {
		t.Fatalf("version %q: %d", text, e)
	}
	return x
}

// vs answers the versions of texts that are known to be some's.
func vs(t *testing.T, l ...string) []api.Version {
	t.Helper()
	var all []api.Version
	for _, text := range l {
		all = append(all, v(t, text))
	}
	return all
}

// read answers the span of a text that is known to be one's.
func read(t *testing.T, text string) api.Span {
	t.Helper()
	s, e := span.Read(text)
	if e != api.OK {
		t.Fatalf("Read(%q): %d", text, e)
	}
	return s
}

// text answers the text of a span that is known to be such as may be.
func text(t *testing.T, s api.Span) string {
	t.Helper()
	text, e := span.Text(s)
	if e != api.OK {
		t.Fatalf("Text(%v): %d", s, e)
	}
	return text
}

// same tells whether two spans have the same rows, without the package that is tried.
func same(a, b api.Span) bool {
	if len(a.Rows) != len(b.Rows) {
		return false
	}
	for n := range a.Rows {
		if len(a.Rows[n]) != len(b.Rows[n]) {
			return false
		}
		for k := range a.Rows[n] {
			if a.Rows[n][k] != b.Rows[n][k] {
				return false
			}
		}
	}
	return true
}

// deep answers the same span in new memory.
func deep(s api.Span) api.Span {
	var c api.Span
	for _, r := range s.Rows {
		c.Rows = append(c.Rows, slices.Clone(r))
	}
	return c
}

// P5.1: what may be, at its limits, too.
func TestCheckGood(t *testing.T) {
	for s, x := range good() {
		if e := span.Check(x); e != api.OK {
			t.Errorf("Check of %s: %d", s, e)
		}
	}
	for _, kind := range kinds {
		for many := 1; many <= api.MaxChoices; many++ {
			for bounds := range api.MaxBounds + 1 {
				if e := span.Check(of(rows(many, bounds, bd(kind, 1, 2, 3, 4))...)); e != api.OK {
					t.Errorf("Check of %d rows of %d bounds of kind %d: %d", many, bounds, kind, e)
				}
			}
		}
	}
}

// P5.1: what may not be.
func TestCheckBad(t *testing.T) {
	for _, s := range bad() {
		if e := span.Check(s); e != api.ErrSpan {
			t.Errorf("Check(%v): %d", s, e)
		}
	}
}

// P5.1: a Tag may stand in a bound of each kind but BdLike.
func TestCheckTag(t *testing.T) {
	for _, kind := range kinds {
		want := api.OK
		if kind == api.BdLike {
			want = api.ErrSpan
		}
		for _, w := range []api.Version{tagged(num(1), "a", 0), tagged(num(1, 2, 3, 4), "rc", 9)} {
			if e := span.Check(of(nil, row(api.Bound{Kind: kind, Version: w}))); e != want {
				t.Errorf("Check of kind %d, with a Tag: %d", kind, e)
			}
		}
	}
}

// P5.1: the same rows, bound by bound.
func TestSame(t *testing.T) {
	all := good()
	for a := range all {
		for b := range all {
			if got := span.Same(all[a], deep(all[b])); got != (a == b) {
				t.Errorf("Same(%s, %s): %v", a, b, got)
			}
		}
	}
	is := bd(api.BdIs, 1)
	for _, c := range [][2]api.Span{
		{of(row(is), nil), of(nil, row(is))},
		{of(row(is), row(bd(api.BdIs, 2))), of(row(bd(api.BdIs, 2)), row(is))},
		{of(row(is, bd(api.BdIs, 2))), of(row(bd(api.BdIs, 2), is))},
		{of(row(is, bd(api.BdIs, 2))), of(row(is), row(bd(api.BdIs, 2)))},
		{of(row(is)), of(row(is), row(is))},
		{of(row(is)), of(row(is, is))},
		{of(row(is)), of(row(is), nil)},
		{of(nil), of(nil, nil)},
		{of(nil), of()},
		{of(row(is)), of(row(bd(api.BdIs, 1, 0)))},
		{of(row(is)), of(row(bd(api.BdNot, 1)))},
		{of(row(is)), of(row(api.Bound{Kind: api.BdIs, Version: tagged(num(1), "a", 0)}))},
		{of(row(api.Bound{Kind: api.BdIs, Version: tagged(num(1), "a", 1)})), of(row(api.Bound{Kind: api.BdIs, Version: tagged(num(1), "a", 0)}))},
		{of(row(bd(api.BdOver, 1), bd(api.BdBelow, 1))), of(row(bd(api.BdOver, 2), bd(api.BdBelow, 2)))},
	} {
		if span.Same(c[0], c[1]) || span.Same(c[1], c[0]) {
			t.Errorf("Same of %v and %v", c[0], c[1])
		}
	}
}

// P5.1: nil and empty rows are the same; of spans that may not be, too, the rows are held against each other.
func TestSameNil(t *testing.T) {
	for _, c := range [][2]api.Span{
		{{}, {}}, {{}, {Rows: [][]api.Bound{}}}, {of(nil), of(row())}, {of(nil, row(), nil), of(row(), nil, row())}, {of(nil), {Rows: make([][]api.Bound, 1)}},
	} {
		if !span.Same(c[0], c[1]) || !span.Same(c[1], c[0]) {
			t.Errorf("no Same of %v and %v", c[0], c[1])
		}
	}
	all := bad()
	for n, a := range all {
		for k, b := range all {
			if got := span.Same(a, b); got != same(a, b) || n == k && !got {
				t.Fatalf("Same(%v, %v): %v", a, b, got)
			}
		}
	}
}

// P5.2: texts, and their spans.
func TestTextRead(t *testing.T) {
	for want, s := range good() {
		if got, e := span.Text(s); got != want || e != api.OK {
			t.Errorf("Text of %s: %q %d", want, got, e)
		}
		if got, e := span.Read(want); !same(got, s) || e != api.OK {
			t.Errorf("Read(%q): %v %d", want, got, e)
		}
	}
}

// P5.2: what may not be has no text.
func TestTextBad(t *testing.T) {
	for _, s := range bad() {
		if got, e := span.Text(s); got != "" || e != api.ErrSpan {
			t.Errorf("Text(%v): %q %d", s, got, e)
		}
	}
}

// P5.2: what is no text of a span that may be.
func TestReadBad(t *testing.T) {
	for _, text := range badTexts() {
		if s, e := span.Read(text); len(s.Rows) != 0 || e != api.ErrSpan {
			t.Errorf("Read(%.50q): %v %d", text, s, e)
		}
	}
}

// P5.3: which versions meet a bound of each kind.
func TestHasKinds(t *testing.T) {
	all := []string{"0", "1.9999", "2-a", "2-rc1", "2.0-rc1", "2-rc2", "2", "2.0", "2.0.0.0", "2.0.1-a", "2.1", "2.1.5-b", "20", "3"}
	for _, c := range []struct {
		span string
		has  []string
	}{
		{"=2", []string{"2"}},
		{"=2.0", []string{"2.0"}},
		{"=2-rc1", []string{"2-rc1"}},
		{"=2.0.0", nil},
		{"!=2", without(all, "2")},
		{"!=2-rc1", without(all, "2-rc1")},
		{"!=7", all},
		{">=2", []string{"2", "2.0", "2.0.0.0", "2.0.1-a", "2.1", "2.1.5-b", "20", "3"}},
		{">=2-rc1", all[3:]},
		{">=0-a", all},
		{">2", []string{"2.0", "2.0.0.0", "2.0.1-a", "2.1", "2.1.5-b", "20", "3"}},
		{">2-rc1", all[4:]},
		{">20", nil},
		{"<=2", all[:7]},
		{"<=2-rc1", all[:4]},
		{"<=0-z", nil},
		{"<2", all[:6]},
		{"<2-rc1", all[:3]},
		{"<2.0", all[:7]},
		{"<0", nil},
		{"2.*", []string{"2-a", "2-rc1", "2.0-rc1", "2-rc2", "2", "2.0", "2.0.0.0", "2.0.1-a", "2.1", "2.1.5-b"}},
		{"2.0.*", []string{"2.0-rc1", "2.0", "2.0.0.0", "2.0.1-a"}},
		{"2.0.0.0.*", []string{"2.0.0.0"}},
		{"2.1.*", []string{"2.1", "2.1.5-b"}},
		{"2.9.*", nil},
		{"*", all},
	} {
		s := read(t, c.span)
		for _, x := range all {
			if got := span.Has(s, v(t, x)); got != slices.Contains(c.has, x) {
				t.Errorf("Has of %s in %s: %v", x, c.span, got)
			}
		}
	}
}

// without answers the list without one.
func without(l []string, one string) []string {
	return slices.DeleteFunc(slices.Clone(l), func(s string) bool { return s == one })
}

// P5.3: all bounds of a row, one of the rows, wherever they stand.
func TestHasRows(t *testing.T) {
	for _, c := range []struct {
		span string
		has  string
		not  string
	}{
		{">=1.2,<2", "1.2 1.10 1.9999 2-rc", "1.1 2 2.0 3"},
		{"<2,>=1.2", "1.2 1.10 1.9999 2-rc", "1.1 2 2.0 3"},
		{">=1,<2,!=1.2,!=1.3", "1 1.1 1.4 1.2.0", "1.2 1.3 2 0"},
		{"!=1,!=2,!=3,<4", "0 1.0 2.5", "1 2 3 4 5"},
		{"=1,=2", "", "0 1 2 3"},
		{"=1||=2", "1 2", "0 1.0 3"},
		{"=1||=2||=3||=4", "1 2 3 4", "0 5"},
		{"=1,=2||=3", "3", "1 2"},
		{"=3||=1,=2", "3", "1 2"},
		{"=1,=2||*", "0 1 9999.1-a", ""},
		{"*||=1,=2", "0 1 9999.1-a", ""},
		{"<1||>2,<3||3.1.*", "0 1-a 2.5 3.1 3.1.4", "1 2 3 3.2 4"},
	} {
		s := read(t, c.span)
		for _, x := range strings.Fields(c.has) {
			if !span.Has(s, v(t, x)) {
				t.Errorf("%s has not %s", c.span, x)
			}
		}
		for _, x := range strings.Fields(c.not) {
			if span.Has(s, v(t, x)) {
				t.Errorf("%s has %s", c.span, x)
			}
		}
	}
}

// P5.3: no span has a version that may not be, and one that may not be has none.
func TestHasBad(t *testing.T) {
	for _, w := range badVersions() {
		for text, s := range good() {
			if span.Has(s, w) {
				t.Errorf("%s has %v", text, w)
			}
		}
		for _, kind := range kinds {
			if span.Has(of(row(api.Bound{Kind: kind, Version: w})), w) {
				t.Errorf("kind %d has %v", kind, w)
			}
		}
	}
	for _, s := range bad() {
		for _, w := range []api.Version{num(0), num(1), num(1, 2), num(1, 2, 3, 4), tagged(num(1, 2), "rc", 1), {}} {
			if span.Has(s, w) {
				t.Errorf("%v, which may not be, has %v", s, w)
			}
		}
	}
}

// P5.3: each once, the last ones first.
func TestPick(t *testing.T) {
	for _, c := range []struct{ span, of, want string }{
		{">1", "1 3 2 3 1.5", "3 2 1.5"},
		{"*", "", ""},
		{"*", "1", "1"},
		{"*", "1 1 1 1", "1"},
		{"*", "1 2 1 2 1", "2 1"},
		{"*", "1 1.0 1.0.0 1.0.0.0", "1.0.0.0 1.0.0 1.0 1"},
		{"*", "1.0.0.0 1 1.0 1.0.0 1 1.0", "1.0.0.0 1.0.0 1.0 1"},
		{"!=1.0", "1 1.0 1.0.0", "1.0.0 1"},
		{"=1.0", "1 1.0 1.0.0 1.0", "1.0"},
		{">=1", "1-rc 1 1.0-rc 1.0", "1.0 1"},
		{"<2", "2-b 2-a 2-a2 2-a10 2 2-a", "2-b 2-a10 2-a2 2-a"},
		{"1.*||=3", "3 3.0 1.9 1.10 2 1-a 1.10", "3 1.10 1.9 1-a"},
		{"=7", "1 2 3", ""},
		{"=1,=2", "1 2", ""},
		{">9998", "9999 9998 9999.9999.9999.9999", "9999.9999.9999.9999 9999"},
	} {
		got := span.Pick(read(t, c.span), vs(t, strings.Fields(c.of)...)...)
		if !slices.Equal(got, vs(t, strings.Fields(c.want)...)) {
			t.Errorf("Pick(%s, %s): %v", c.span, c.of, got)
		}
	}
}

// P5.3: what may not be is not picked; a span that may not be has none.
func TestPickBad(t *testing.T) {
	mixed := slices.Concat(badVersions(), vs(t, "2", "1"), badVersions(), vs(t, "3"), badVersions())
	for c, want := range map[string][]api.Version{"*": vs(t, "3", "2", "1"), "<3": vs(t, "2", "1"), "<=0": nil, "!=2||<1": vs(t, "3", "1")} {
		if got := span.Pick(read(t, c), mixed...); !slices.Equal(got, want) {
			t.Errorf("Pick(%s): %v", c, got)
		}
		if got := span.Pick(read(t, c), badVersions()...); len(got) != 0 {
			t.Errorf("Pick(%s): %v", c, got)
		}
	}
	for _, s := range bad() {
		if got := span.Pick(s, mixed...); len(got) != 0 {
			t.Errorf("Pick(%v): %v", s, got)
		}
		if got := span.Pick(s); len(got) != 0 {
			t.Errorf("Pick(%v) of none: %v", s, got)
		}
	}
}

// P5.4: the rows that each row comes to with each.
func TestBoth(t *testing.T) {
	for _, c := range [][3]string{
		{"=1", "=2", "=1,=2"},
		{"=2", "=1", "=2,=1"},
		{"*", "*", "*"},
		{"*", "=1", "=1"},
		{"=1", "*", "=1"},
		{"=1", "=1", "=1,=1"},
		{">=1||<0.5", "!=2", ">=1,!=2||<0.5,!=2"},
		{"!=2", ">=1||<0.5", "!=2,>=1||!=2,<0.5"},
		{"=1||=2", "=3||=4", "=1,=3||=1,=4||=2,=3||=2,=4"},
		{"=1||*", "*||=4", "=1||=1,=4||*||=4"},
		{"*||*", "*||*", "*||*||*||*"},
		{"=1,=2", "=3,=4", "=1,=2,=3,=4"},
		{"=1,=2,=3", "=4", "=1,=2,=3,=4"},
		{"=1", "=2,=3,=4", "=1,=2,=3,=4"},
		{four("=1"), "*", four("=1")},
		{"*", four("=1"), four("=1")},
		{full("=1"), "*", full("=1")},
		{"*", full("1.*"), full("1.*")},
		{"=1||=2||=3||=4", "<5", "=1,<5||=2,<5||=3,<5||=4,<5"},
		{"<5", "=1||=2||=3||=4", "<5,=1||<5,=2||<5,=3||<5,=4"},
		{four("=1") + "||*", "*||*", four("=1") + "||" + four("=1") + "||*||*"},
	} {
		s, e := span.Both(read(t, c[0]), read(t, c[1]))
		if e != api.OK || !same(s, read(t, c[2])) {
			t.Errorf("Both(%s, %s): %v %d", c[0], c[1], s, e)
		}
	}
}

// P5.4: more rows, or more bounds in one, than may be.
func TestBothLong(t *testing.T) {
	for _, c := range [][2]string{
		{"*||*||*", "*||*"}, {"*||*", "*||*||*"}, {"=1||=2||=3", "=1||=2"}, {"*||*||*||*", "*||*||*||*"}, {full("=1"), full("=1")}, {"*||*||*||*", "=1||=2"},
		{four("=1"), "=1"}, {"=1", four("=1")}, {"=1,=2", "=3,=4,=5"}, {"=1,=2,=3", "=3,=4"}, {four("=1"), four("=1")}, {"*||" + four("=1"), "=1"}, {"=1", "*||" + four("=1")}, {four("=1") + "||*", "=1"}, {"*||*||*||=1,=2,=3", "=1,=2"}, {"=1", "*||*||*||" + four("=1")},
	} {
		if s, e := span.Both(read(t, c[0]), read(t, c[1])); len(s.Rows) != 0 || e != api.ErrLong {
			t.Errorf("Both(%s, %s): %v %d", c[0], c[1], s, e)
		}
	}
}

// P5.4: the rows of the one, and those of the other behind them.
func TestEither(t *testing.T) {
	for _, c := range [][3]string{
		{"=1", "=2", "=1||=2"},
		{"=2", "=1", "=2||=1"},
		{"*", "*", "*||*"},
		{"*", "=2", "*||=2"},
		{"=2", "*", "=2||*"},
		{"=1", "=1", "=1||=1"},
		{"=1,=2", "=3,=4", "=1,=2||=3,=4"},
		{"=1||=2||=3", "=4", "=1||=2||=3||=4"},
		{"=1", "=2||=3||=4", "=1||=2||=3||=4"},
		{"=1||=2", "*||=4,<5", "=1||=2||*||=4,<5"},
		{four("=1") + "||" + four("=1"), four("=1") + "||" + four("=1"), full("=1")},
	} {
		s, e := span.Either(read(t, c[0]), read(t, c[1]))
		if e != api.OK || !same(s, read(t, c[2])) {
			t.Errorf("Either(%s, %s): %v %d", c[0], c[1], s, e)
		}
	}
}

// P5.4: more rows than may be.
func TestEitherLong(t *testing.T) {
	for _, c := range [][2]string{
		{"*||*||*||*", "*"}, {"*", "*||*||*||*"}, {"=1||=2||=3", "=4||=5"}, {"=1||=2", "=3||=4||=5"}, {full("=1"), "=1"}, {full("=1"), full("=1")},
	} {
		if s, e := span.Either(read(t, c[0]), read(t, c[1])); len(s.Rows) != 0 || e != api.ErrLong {
			t.Errorf("Either(%s, %s): %v %d", c[0], c[1], s, e)
		}
	}
}

// P5.4: a span that may not be goes first, whatever else is too long.
func TestBothEitherBad(t *testing.T) {
	for _, call := range []func(a, b api.Span) (api.Span, api.Errno){span.Both, span.Either} {
		for _, s := range bad() {
			for _, other := range []api.Span{read(t, "*"), read(t, "=1"), read(t, full("=1")), s, {}, of(rows(5, 5, bd(api.BdIs, 1))...)} {
				if got, e := call(s, other); len(got.Rows) != 0 || e != api.ErrSpan {
					t.Errorf("of %v, and %v: %v %d", s, other, got, e)
				}
				if got, e := call(other, s); len(got.Rows) != 0 || e != api.ErrSpan {
					t.Errorf("of %v, and %v: %v %d", other, s, got, e)
				}
			}
		}
	}
}

// The chapter's examples, row by row.
func TestExamples(t *testing.T) {
	for _, c := range []struct {
		span, version string
		want          bool
	}{
		{">=1.2,<2||=3.1", "1.10", true}, {">=1.2,<2||=3.1", "2", false}, {">=1.2,<2||=3.1", "3.1", true}, {">=1.2,<2||=3.1", "3.1.0", false},
		{"1.2.*", "1.2", true}, {"1.2.*", "1.2.9-rc", true}, {"1.2.*", "1.20", false}, {"*", "0", true},
	} {
		if got := span.Has(read(t, c.span), v(t, c.version)); got != c.want {
			t.Errorf("Has of %s in %s: %v", c.version, c.span, got)
		}
	}
	for _, text := range []string{">=1.2,", "=", "1.2", "1.2-rc.*", "*,=1", ""} {
		if s, e := span.Read(text); len(s.Rows) != 0 || e != api.ErrSpan {
			t.Errorf("Read(%q): %v %d", text, s, e)
		}
	}
	both, e := span.Both(read(t, ">=1||<0.5"), read(t, "!=2"))
	if got, textE := span.Text(both); got != ">=1,!=2||<0.5,!=2" || e != api.OK || textE != api.OK {
		t.Error(got, e, textE)
	}
	either, e := span.Either(read(t, "*"), read(t, "=2"))
	if got, textE := span.Text(either); got != "*||=2" || e != api.OK || textE != api.OK {
		t.Error(got, e, textE)
	}
	if l := span.Pick(read(t, ">1"), vs(t, "1", "3", "2", "3", "1.5")...); !slices.Equal(l, vs(t, "3", "2", "1.5")) {
		t.Error(l)
	}
}
