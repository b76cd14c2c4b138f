package version_test

import (
	"math"
	"slices"
	"strconv"
	"strings"
	"testing"

	"puncheon/api"
	"puncheon/version"
)

// of answers the version of these numbers.
func of(numbers ...int) api.Version {
	v := api.Version{Many: len(numbers)}
	copy(v.Numbers[:], numbers)
	return v
}

// tagged answers v with this Tag and Step.
func tagged(v api.Version, tag string, step int) api.Version {
	v.Tag, v.Step = tag, step
	return v
}

// many answers v, saying that it has so many numbers.
func many(v api.Version, n int) api.Version {
	v.Many = n
	return v
}

// good are versions that may be, each with its text.
func good() map[string]api.Version {
	return map[string]api.Version{
		"0":                                of(0),
		"1":                                of(1),
		"9":                                of(9),
		"10":                               of(10),
		"9999":                             of(9999),
		"0.0":                              of(0, 0),
		"0.0.0.0":                          of(0, 0, 0, 0),
		"1.20.3":                           of(1, 20, 3),
		"100.0.1000.7":                     of(100, 0, 1000, 7),
		"9999.9999.9999.9999":              of(9999, 9999, 9999, 9999),
		"0-a":                              tagged(of(0), "a", 0),
		"1-z":                              tagged(of(1), "z", 0),
		"1.2-rc":                           tagged(of(1, 2), "rc", 0),
		"1.20.3-rc1":                       tagged(of(1, 20, 3), "rc", 1),
		"1-abcdef":                         tagged(of(1), "abcdef", 0),
		"1-zzzzzz999":                      tagged(of(1), "zzzzzz", 999),
		"1-a10":                            tagged(of(1), "a", 10),
		"1-a100":                           tagged(of(1), "a", 100),
		"9999.9999.9999.9999-zzzzzz999":    tagged(of(9999, 9999, 9999, 9999), "zzzzzz", 999),
		"0.0.0.0-a1":                       tagged(of(0, 0, 0, 0), "a", 1),
		"1.0.0-alpha12":                    tagged(of(1, 0, 0), "alpha", 12),
		strings.Repeat("7.", 3) + "7-qrs7": tagged(of(7, 7, 7, 7), "qrs", 7),
	}
}

// bad are versions that may not be.
func bad() []api.Version {
	all := []api.Version{{}, tagged(api.Version{}, "a", 1)}
	for _, n := range []int{0, 5, 6, 1000, -1, -2, -4, -5, math.MaxInt, math.MinInt} {
		all = append(all, many(of(0, 0, 0, 0), n), many(of(1, 2, 3, 4), n), many(tagged(of(1, 2, 3, 4), "rc", 1), n))
	}
	for _, x := range []int{10000, 10001, -1, -9999, math.MaxInt, math.MinInt, 1 << 32, 1<<32 + 1} {
		for place := range api.MaxNumbers {
			v := of(1, 2, 3, 4)
			v.Numbers[place] = x
			for n := place + 1; n <= api.MaxNumbers; n++ {
				w := v
				clear(w.Numbers[n:])
				all = append(all, many(w, n), many(tagged(w, "rc", 1), n))
			}
		}
	}
	for _, x := range []int{1, 9999, 10000, -1} {
		for place := 1; place < api.MaxNumbers; place++ {
			v := of(1)
			v.Numbers[place] = x
			for n := 1; n <= place; n++ {
				all = append(all, many(v, n), many(tagged(v, "rc", 0), n))
			}
		}
	}
	for _, tag := range []string{"abcdefg", "aaaaaaaaaaaa", "A", "Rc", "rC", "abcdeF", "1", "a1", "1a", "a1b", "abcde0", "-", "a-", "-a", ".", "a.b", " ", "a ", " a", "\x00", "a\x00", "a\n", "é", "aé", "\xff", "a\x80", "ä", "`", "{", "ａ", "\u0430", strings.Repeat("a", 1<<16)} {
		for _, step := range []int{0, 1} {
			all = append(all, tagged(of(1, 2), tag, step))
		}
	}
	for _, step := range []int{1000, 1001, -1, -999, math.MaxInt, math.MinInt, 1 << 32} {
		all = append(all, tagged(of(1), "rc", step), tagged(of(1, 2, 3, 4), "rc", step), tagged(of(1), "", step))
	}
	return append(all, tagged(of(1), "", 1), tagged(of(1, 2), "", 999), tagged(of(0), "", 1))
}

// badTexts are no versions' texts.
func badTexts() []string {
	all := []string{
		"", "00", "01", "1.02", "00.1", "1.00", "0000", "1.2.3.04", "1.2.3.4.5", "0.0.0.0.0", "1.2.3.4.", "10000", "1.10000", "99990", "010000", "99999999999999999999", "1.18446744073709551617", "18446744073709551616",
		".", "..", ".1", "1.", "1..2", "1...2", ".1.2", "1.2.", "1.2.-a", ".-a", "-a", "-", "--", "-1", "1.-1",
		"1-", "1.2-", "1-1", "1-0", "1-rc0", "1-rc00", "1-rc01", "1-rc001", "1-rc1000", "1-rc9990", "1-rc18446744073709551617", "1-abcdefg", "1-abcdefg1", "1-Rc", "1-rC1", "1-RC", "1-a-", "1-a-b", "1--a", "1-a1b", "1-a1-", "1-a1.", "1-a.1", "1-a.", "1-a 1", "1a", "1a1", "a", "rc1", "1.a", "v1",
		" 1", "1 ", "1 .2", "1. 2", "+1", "1.+2", "1,2", "1_2", "1\n", "\n1", "1\x00", "\x00", "0x1", "1e1", "1-é", "1-a\xff", "1-aé1", "é", "\xff", "\x80", "1\x80", "1.\xc3\xa9", "١", "1.٢", "１", "1-ａ", "1-\u0430", "1‐a", "1-a１", "1-a+1", "1-a-1",
		strings.Repeat("1", 1<<16), strings.Repeat("0", 1<<16), strings.Repeat("1.", 1<<16) + "1", strings.Repeat(".", 1<<16), strings.Repeat("-", 1<<16), "1-" + strings.Repeat("a", 1<<16), "1-a" + strings.Repeat("9", 1<<16), "1-a" + strings.Repeat("0", 1<<16) + "1",
	}
	for n := range 256 {
		c := string([]byte{byte(n)})
		if n < '0' || '9' < n {
			all = append(all, c, c+"1", "1"+c, "1.2"+c, "1-a1"+c)
		}
		if n < 'a' || 'z' < n {
			all = append(all, "1-"+c, "1-"+c+"a", "1-a"+c+"a")
		}
	}
	return all
}

// read answers the version of a text that is known to be one's.
func read(t *testing.T, s string) api.Version {
	t.Helper()
	v, e := version.Read(s)
	if e != api.OK {
		t.Fatalf("Read(%q): %d", s, e)
	}
	return v
}

// reads answers the versions of texts that are known to be some's.
func reads(t *testing.T, l ...string) []api.Version {
	t.Helper()
	var all []api.Version
	for _, s := range l {
		all = append(all, read(t, s))
	}
	return all
}

// P4.1: what may be, at its limits, too.
func TestCheckGood(t *testing.T) {
	for s, v := range good() {
		if e := version.Check(v); e != api.OK {
			t.Errorf("Check of %s: %d", s, e)
		}
	}
	for n := range api.MaxNumbers {
		if e := version.Check(many(api.Version{}, n+1)); e != api.OK {
			t.Errorf("Check of %d noughts: %d", n+1, e)
		}
	}
	for c := 'a'; c <= 'z'; c++ {
		for n := range api.MaxTag {
			if e := version.Check(tagged(of(1), strings.Repeat(string(c), n+1), 0)); e != api.OK {
				t.Errorf("Check with a Tag of %d %c: %d", n+1, c, e)
			}
		}
	}
	for step := range api.MaxStep + 1 {
		if e := version.Check(tagged(of(1), "a", step)); e != api.OK {
			t.Errorf("Check with a Step of %d: %d", step, e)
		}
	}
}

// P4.1: what may not be.
func TestCheckBad(t *testing.T) {
	for _, v := range bad() {
		if e := version.Check(v); e != api.ErrVersion {
			t.Errorf("Check(%.50q, %v): %d", v.Tag, v, e)
		}
	}
}

// P4.1: each byte, at each place of a Tag.
func TestCheckLetters(t *testing.T) {
	for n := range 256 {
		c := string([]byte{byte(n)})
		want := api.ErrVersion
		if 'a' <= n && n <= 'z' {
			want = api.OK
		}
		for _, tag := range []string{c, c + "bcdef", "ab" + c + "def", "abcde" + c} {
			if e := version.Check(tagged(of(1), tag, 0)); e != want {
				t.Errorf("Check with the Tag %q: %d", tag, e)
			}
		}
	}
}

// P4.2: texts, and their versions.
func TestTextRead(t *testing.T) {
	for s, v := range good() {
		if text, e := version.Text(v); text != s || e != api.OK {
			t.Errorf("Text of %s: %q %d", s, text, e)
		}
		if got, e := version.Read(s); got != v || e != api.OK {
			t.Errorf("Read(%q): %v %d", s, got, e)
		}
	}
}

// P4.2: each number, at each place.
func TestTextReadNumbers(t *testing.T) {
	for x := range api.MaxNumber + 1 {
		s := strconv.Itoa(x)
		for _, c := range []struct {
			s string
			v api.Version
		}{{s, of(x)}, {s + ".1", of(x, 1)}, {"0.0.0." + s, of(0, 0, 0, x)}} {
			if text, e := version.Text(c.v); text != c.s || e != api.OK {
				t.Errorf("Text of %s: %q %d", c.s, text, e)
			}
			if v, e := version.Read(c.s); v != c.v || e != api.OK {
				t.Errorf("Read(%q): %v %d", c.s, v, e)
			}
		}
	}
}

// P4.2: each Step; one of 0 is not written.
func TestTextReadSteps(t *testing.T) {
	for step := range api.MaxStep + 1 {
		s := "3.1-beta"
		if step > 0 {
			s += strconv.Itoa(step)
		}
		v := tagged(of(3, 1), "beta", step)
		if text, e := version.Text(v); text != s || e != api.OK {
			t.Errorf("Text of %s: %q %d", s, text, e)
		}
		if got, e := version.Read(s); got != v || e != api.OK {
			t.Errorf("Read(%q): %v %d", s, got, e)
		}
	}
}

// P4.2: what may not be has no text.
func TestTextBad(t *testing.T) {
	for _, v := range bad() {
		if s, e := version.Text(v); s != "" || e != api.ErrVersion {
			t.Errorf("Text(%.50q, %v): %q %d", v.Tag, v.Numbers, s, e)
		}
	}
}

// P4.2: what is no version's text.
func TestReadBad(t *testing.T) {
	for _, s := range badTexts() {
		if v, e := version.Read(s); v != (api.Version{}) || e != api.ErrVersion {
			t.Errorf("Read(%.50q): %v %d", s, v, e)
		}
	}
}

// P4.3: of a row in order each stands ahead of all behind it.
func TestCompareRow(t *testing.T) {
	row := reads(t,
		"0-a", "0.0-a", "0.0.0.0-a", "0-a1", "0.0-a1", "0-a2", "0-a10", "0-a999", "0.0-a999", "0-aa", "0-ab", "0-b", "0.0-b", "0-z9", "0-zzzzzz999", "0", "0.0", "0.0.0", "0.0.0.0",
		"0.0.0.1-rc", "0.0.0.1", "0.0.1", "0.0.9999", "0.0.9999.9999", "0.1-a", "0.1", "0.1.0", "0.2", "0.10", "0.9999",
		"1-a", "1.0-a", "1.0.0-a", "1.0.0.0-a", "1-b", "1.0.0.0-b", "1", "1.0", "1.0.0", "1.0.0.0", "1.0.0.1", "1.0.1-a", "1.0.1", "1.1",
		"1.2-a9", "1.2-a10", "1.2.0-a10", "1.2-b", "1.2-rc1", "1.2.0-rc1", "1.2-rc2", "1.2", "1.2.0", "1.2.3-a", "1.2.3", "1.10-rc1", "1.10", "1.9999.9999.9999",
		"2", "9", "10", "99", "100", "999", "1000", "9999-zzzzzz999", "9999", "9999.9999.9999.9999-a", "9999.9999.9999.9999")
	for n, a := range row {
		for k, b := range row {
			want := 0
			if n < k {
				want = -1
			} else if n > k {
				want = 1
			}
			if got := version.Compare(a, b); got != want {
				t.Errorf("Compare(%v, %v): %d", a, b, got)
			}
		}
	}
}

// P4.3: what may not be stands ahead of all that may, and is one with all else that may not be.
func TestCompareBad(t *testing.T) {
	for _, a := range bad() {
		for _, b := range bad() {
			if got := version.Compare(a, b); got != 0 {
				t.Fatalf("Compare of two that may not be, %v and %v: %d", a.Numbers, b.Numbers, got)
			}
		}
		for s, v := range good() {
			if ahead, behind := version.Compare(a, v), version.Compare(v, a); ahead != -1 || behind != 1 {
				t.Fatalf("Compare of %v, which may not be, and %s: %d %d", a.Numbers, s, ahead, behind)
			}
		}
	}
}

// P4.3: what begins with what.
func TestBegins(t *testing.T) {
	for _, c := range []struct {
		v, ahead string
		want     bool
	}{
		{"3.1.4", "3.1.4", true}, {"3.1.4", "3.1", true}, {"3.1.4", "3", true}, {"3.1.4", "3.1.4.0", false}, {"3.1.4", "3.1.5", false}, {"3.1.4", "3.2", false}, {"3.1.4", "4", false}, {"3.1.4", "1", false}, {"3.1.4", "1.4", false},
		{"3", "3.1", false}, {"3", "3.0", false}, {"3.0", "3", true}, {"3.0", "3.0", true}, {"3.0", "3.0.0", false}, {"0", "0", true}, {"0.0.0.0", "0", true}, {"0", "0.0.0.0", false}, {"0.1", "0", true},
		{"3.1-rc", "3.1", true}, {"3.1-rc9", "3.1", true}, {"3.1-rc", "3", true}, {"3.1-rc", "3.1-rc", false}, {"3.1", "3.1-rc", false}, {"3.1.4", "3.1-rc", false}, {"3.1-rc1", "3-rc1", false}, {"3-rc", "3.1", false},
		{"31", "3", false}, {"3", "31", false}, {"3.14", "3.1", false}, {"3.1", "3.14", false}, {"9999.9999.9999.9999-a", "9999.9999.9999.9999", true}, {"9999.9999.9999.9998", "9999.9999.9999.9999", false}, {"1.2.3.4", "1.2.3", true}, {"1.2.3.4", "1.9.3", false}, {"1.2.3.4", "9.2", false},
	} {
		if got := version.Begins(read(t, c.v), read(t, c.ahead)); got != c.want {
			t.Errorf("Begins(%s, %s): %v", c.v, c.ahead, got)
		}
	}
}

// P4.3: nothing begins with what may not be, nor does that with anything.
func TestBeginsBad(t *testing.T) {
	for _, a := range bad() {
		if version.Begins(a, a) {
			t.Errorf("%v, which may not be, begins with itself", a.Numbers)
		}
		for s, v := range good() {
			if version.Begins(a, v) || version.Begins(v, a) {
				t.Fatalf("%v, which may not be, and %s", a.Numbers, s)
			}
		}
	}
	behind := of(3)
	behind.Numbers[1] = 1
	if version.Begins(behind, of(3)) || version.Begins(of(3, 1), behind) {
		t.Error("a number behind Many")
	}
}

// P4.4: in order, as often as they come.
func TestSort(t *testing.T) {
	for _, c := range [][2][]string{
		{{"1"}, {"1"}},
		{{"2", "1-b", "1"}, {"1-b", "1", "2"}},
		{{"1", "1", "1"}, {"1", "1", "1"}},
		{{"1", "2", "1", "2", "1"}, {"1", "1", "1", "2", "2"}},
		{{"1.0.0", "1", "1.0", "1.0.0.0"}, {"1", "1.0", "1.0.0", "1.0.0.0"}},
		{{"1.10", "1.9", "1.2", "1.2-rc2", "1.2-rc10", "1.2-rc"}, {"1.2-rc", "1.2-rc2", "1.2-rc10", "1.2", "1.9", "1.10"}},
		{{"9999.9999.9999.9999", "0", "0-a"}, {"0-a", "0", "9999.9999.9999.9999"}},
	} {
		if got := version.Sort(reads(t, c[0]...)...); !slices.Equal(got, reads(t, c[1]...)) {
			t.Errorf("Sort(%q): %v", c[0], got)
		}
	}
}

// P4.4: what may not be is left out; nothing is left of nothing.
func TestSortBad(t *testing.T) {
	if l := version.Sort(); len(l) != 0 {
		t.Error(l)
	}
	if l := version.Sort([]api.Version{}...); len(l) != 0 {
		t.Error(l)
	}
	if l := version.Sort(bad()...); len(l) != 0 {
		t.Error(l)
	}
	mixed := slices.Concat(bad(), reads(t, "2", "1"), bad(), reads(t, "1-a", "2"), bad())
	if l := version.Sort(mixed...); !slices.Equal(l, reads(t, "1-a", "1", "2", "2")) {
		t.Error(l)
	}
}

// P4.4: the last one, wherever it stands.
func TestLatest(t *testing.T) {
	for _, c := range []struct {
		l    []string
		want string
	}{
		{[]string{"0"}, "0"}, {[]string{"0-a"}, "0-a"}, {[]string{"1.2", "1.10", "1.10-rc1"}, "1.10"}, {[]string{"1.10", "1.2"}, "1.10"}, {[]string{"1.2", "1.10"}, "1.10"},
		{[]string{"1", "1.0"}, "1.0"}, {[]string{"1.0", "1"}, "1.0"}, {[]string{"2", "2", "2"}, "2"}, {[]string{"1-a", "1-a9", "1-a10"}, "1-a10"}, {[]string{"9999", "1", "9999.0"}, "9999.0"},
	} {
		if v, is := version.Latest(reads(t, c.l...)...); v != read(t, c.want) || !is {
			t.Errorf("Latest(%q): %v %v", c.l, v, is)
		}
	}
}

// P4.4: there is no last one of none that may be.
func TestLatestBad(t *testing.T) {
	for n, l := range [][]api.Version{nil, {}, {{}}, bad(), bad()[:1], bad()[1:2]} {
		if v, is := version.Latest(l...); v != (api.Version{}) || is {
			t.Errorf("Latest of row %d: %v %v", n, v, is)
		}
	}
	for s, want := range good() {
		if v, is := version.Latest(slices.Concat(bad(), []api.Version{want}, bad())...); v != want || !is {
			t.Errorf("Latest of %s, and such as may not be: %v %v", s, v, is)
		}
	}
}

// P4.5: the one behind.
func TestBehind(t *testing.T) {
	for s, want := range map[string]string{
		"0": "1", "1": "2", "9": "10", "9998": "9999", "0.0": "0.1", "1.2": "1.3", "1.9": "1.10", "1.99": "1.100", "9999.0": "9999.1", "9999.9998": "9999.9999", "1.2.3.4": "1.2.3.5", "9999.9999.9999.9998": "9999.9999.9999.9999",
		"3.1-rc": "3.2", "3.1-rc9": "3.2", "0-a1": "1", "9998-zzzzzz999": "9999", "1.2.3.0-b": "1.2.3.1",
	} {
		if v, e := version.Behind(read(t, s)); v != read(t, want) || e != api.OK {
			t.Errorf("Behind(%s): %v %d", s, v, e)
		}
	}
}

// P4.5: what has none behind it.
func TestBehindBad(t *testing.T) {
	for _, s := range []string{"9999", "9999-a", "9999-a999", "0.9999", "9999.9999", "1.2.9999", "1.2.3.9999", "1.2.3.9999-rc1", "9999.9999.9999.9999"} {
		if v, e := version.Behind(read(t, s)); v != (api.Version{}) || e != api.ErrArg {
			t.Errorf("Behind(%s): %v %d", s, v, e)
		}
	}
	last := append(bad(), many(of(1, 9999), 1), many(of(9999, 9999), 1), tagged(of(9999), "A", 0), tagged(of(9999), "", 1), many(of(9999, 9999, 9999, 9999), 5))
	for _, v := range last {
		if next, e := version.Behind(v); next != (api.Version{}) || e != api.ErrVersion {
			t.Errorf("Behind(%.50q, %v): %v %d", v.Tag, v.Numbers, next, e)
		}
	}
}

// The chapter's examples, row by row.
func TestExamples(t *testing.T) {
	v, e := version.Read("1.20.3-rc1")
	if v.Numbers != [4]int{1, 20, 3} || v.Many != 3 || v.Tag != "rc" || v.Step != 1 || e != api.OK {
		t.Error(v, e)
	}
	if s, e := version.Text(v); s != "1.20.3-rc1" || e != api.OK {
		t.Error(s, e)
	}
	for _, s := range []string{"1.02", "1.2.3.4.5", "1-", "1-rc0", "10000", ""} {
		if v, e := version.Read(s); v != (api.Version{}) || e != api.ErrVersion {
			t.Error(s, v, e)
		}
	}
	for _, c := range [][2]string{{"1.2", "1.10"}, {"1.2-rc1", "1.2"}, {"1.2", "1.2.0"}, {"1.2-a9", "1.2-b"}} {
		if got := version.Compare(read(t, c[0]), read(t, c[1])); got != -1 {
			t.Error(c, got)
		}
	}
	for n, want := range []bool{true, false, true} {
		c := [][2]string{{"3.1.4", "3.1"}, {"3", "3.1"}, {"3.1-rc", "3.1"}}[n]
		if got := version.Begins(read(t, c[0]), read(t, c[1])); got != want {
			t.Error(c, got)
		}
	}
	if v, e := version.Behind(read(t, "3.1-rc")); v != read(t, "3.2") || e != api.OK {
		t.Error(v, e)
	}
	if v, is := version.Latest(reads(t, "1.2", "1.10", "1.10-rc1")...); v != read(t, "1.10") || !is {
		t.Error(v, is)
	}
	if l := version.Sort(reads(t, "2", "1-b", "1")...); !slices.Equal(l, reads(t, "1-b", "1", "2")) {
		t.Error(l)
	}
}
