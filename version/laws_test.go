package version_test

import (
	"regexp"
	"slices"
	"strconv"
	"strings"
	"testing"

	"puncheon/api"
	"puncheon/version"
)

// form is what the chapter says of a version's text, with its numbers, its Tag and its Step.
var form = regexp.MustCompile(`^((?:0|[1-9][0-9]{0,3})(?:\.(?:0|[1-9][0-9]{0,3})){0,3})(?:-([a-z]{1,6})([1-9][0-9]{0,2})?)?$`)

// plainRead reads a text without the package that is tried.
func plainRead(s string) (api.Version, api.Errno) {
	m := form.FindStringSubmatch(s)
	if m == nil {
		return api.Version{}, api.ErrVersion
	}
	numbers := strings.Split(m[1], ".")
	v := api.Version{Many: len(numbers), Tag: m[2]}
	for n, digits := range numbers {
		v.Numbers[n], _ = strconv.Atoi(digits)
	}
	v.Step, _ = strconv.Atoi(m[3])
	return v, api.OK
}

// plainText says a version that may be without the package that is tried.
func plainText(v api.Version) string {
	var numbers []string
	for _, x := range v.Numbers[:v.Many] {
		numbers = append(numbers, strconv.Itoa(x))
	}
	s := strings.Join(numbers, ".")
	if v.Tag != "" {
		s += "-" + v.Tag
	}
	if v.Step > 0 {
		s += strconv.Itoa(v.Step)
	}
	return s
}

// key is a row of numbers that rises as versions that may be do, what differs first deciding.
func key(v api.Version) []int {
	k := slices.Clone(v.Numbers[:])
	out := 1
	if v.Tag != "" {
		out = 0
	}
	k = append(k, out)
	var tag [api.MaxTag]int
	for n := range v.Tag {
		tag[n] = int(v.Tag[n])
	}
	k = append(k, tag[:]...)
	return append(k, v.Step, v.Many)
}

// someTexts are all texts of at most n of these pieces.
func someTexts(n int, pieces ...string) []string {
	all := []string{""}
	from := 0
	for range n {
		to := len(all)
		for _, s := range all[from:to] {
			for _, piece := range pieces {
				all = append(all, s+piece)
			}
		}
		from = to
	}
	return all
}

// someVersions are all versions of these numbers, with and without a few Tags and Steps that lie close together.
func someVersions(numbers ...int) []api.Version {
	var plain []api.Version
	ends := []api.Version{{}}
	for n := range api.MaxNumbers {
		var longer []api.Version
		for _, v := range ends {
			for _, x := range numbers {
				v.Numbers[n], v.Many = x, n+1
				longer = append(longer, v)
			}
		}
		plain = append(plain, longer...)
		ends = longer
	}
	all := slices.Clone(plain)
	for _, v := range plain {
		for _, tag := range []string{"a", "aa", "ab", "b"} {
			for _, step := range []int{0, 1, 2, 10} {
				all = append(all, tagged(v, tag, step))
			}
		}
	}
	return all
}

// P4.2, P4.6: texts, all short ones, are read as the chapter says; Text of Read is the text.
func TestLawRead(t *testing.T) {
	all := someTexts(8, "0", "1", ".", "-", "a")
	all = append(all, someTexts(4, "0", "7", "10", "999", "9999", "10000", ".", "-", "a", "abcdef", "z", "A", "é", "\xff", " ")...)
	some := 0
	for _, s := range append(all, badTexts()...) {
		v, e := version.Read(s)
		if want, wantE := plainRead(s); v != want || e != wantE {
			t.Fatalf("Read(%q): %v %d, not %v %d", s, v, e, want, wantE)
		}
		if e != api.OK {
			continue
		}
		some++
		if version.Check(v) != api.OK {
			t.Fatalf("Read(%q) may not be: %v", s, v)
		}
		if text, e := version.Text(v); text != s || e != api.OK {
			t.Fatalf("Text of Read(%q): %q %d", s, text, e)
		}
	}
	if some < 1000 {
		t.Errorf("just %d texts were some version's", some)
	}
}

// P4.2, P4.6: Read of Text is the version.
func TestLawText(t *testing.T) {
	for _, v := range someVersions(0, 1, 10, 9999) {
		s, e := version.Text(v)
		if s != plainText(v) || e != api.OK || version.Check(v) != api.OK {
			t.Fatalf("Text(%v): %q %d", v, s, e)
		}
		if back, e := version.Read(s); back != v || e != api.OK {
			t.Fatalf("Read of Text(%v): %v %d", v, back, e)
		}
	}
}

// P4.3, P4.6: Compare goes as the keys do, of which one of ahead, the same, behind holds of each two.
func TestLawCompare(t *testing.T) {
	all := someVersions(0, 1, 9999)
	var keys [][]int
	for _, v := range all {
		keys = append(keys, key(v))
	}
	for n, a := range all {
		for k, b := range all {
			got := version.Compare(a, b)
			if want := slices.Compare(keys[n], keys[k]); got != want {
				t.Fatalf("Compare(%v, %v): %d", a, b, got)
			}
			if (got == 0) != (a == b) {
				t.Fatalf("Compare(%v, %v): %d", a, b, got)
			}
		}
	}
}

// P4.6: Compare goes on over a third, be it one that may not be.
func TestLawCompareThird(t *testing.T) {
	all := someVersions(0, 1)
	all = append(all[:30:30], all[len(all)-60:]...)
	all = append(all, bad()[:10]...)
	for _, a := range all {
		for _, b := range all {
			ab := version.Compare(a, b)
			if back := version.Compare(b, a); back != -ab {
				t.Fatalf("Compare(%v, %v): %d, and back %d", a, b, ab, back)
			}
			for _, c := range all {
				if bc := version.Compare(b, c); ab <= 0 && bc <= 0 && version.Compare(a, c) != min(ab, bc) {
					t.Fatalf("of %v, %v, %v: %d %d %d", a, b, c, ab, bc, version.Compare(a, c))
				}
			}
		}
	}
}

// P4.3: what begins with what, by texts.
func TestLawBegins(t *testing.T) {
	all := someVersions(0, 1, 11)
	var texts []string
	for _, v := range all {
		texts = append(texts, plainText(v))
	}
	for n, v := range all {
		numbers, _, _ := strings.Cut(texts[n], "-")
		for k, ahead := range all {
			want := strings.HasPrefix(numbers+".", texts[k]+".")
			if got := version.Begins(v, ahead); got != want {
				t.Fatalf("Begins(%s, %s): %v", texts[n], texts[k], got)
			}
		}
	}
}

// P4.4: Sort has all that may be, as often as they come, in order, whatever the order they come in; Latest is the last one of these.
func TestLawSort(t *testing.T) {
	all := someVersions(0, 1)
	want := slices.Concat(all, all[:100])
	slices.SortFunc(want, func(a, b api.Version) int { return slices.Compare(key(a), key(b)) })
	row := slices.Concat(all, bad(), all[:100])
	for step := 1; step < len(row); step *= 3 {
		var turned []api.Version
		for from := range step {
			for n := from; n < len(row); n += step {
				turned = append(turned, row[len(row)-1-n])
			}
		}
		if got := version.Sort(turned...); !slices.Equal(got, want) {
			t.Errorf("Sort, by steps of %d", step)
		}
		if v, is := version.Latest(turned...); v != want[len(want)-1] || !is {
			t.Errorf("Latest, by steps of %d: %v %v", step, v, is)
		}
	}
}

// P4.5, P4.6: a version is ahead of the one behind it, as is each other one that begins with it.
func TestLawBehind(t *testing.T) {
	all := someVersions(0, 1, 9999)
	for _, v := range someVersions(0, 9998, 9999)[:120] {
		all = append(all, v)
	}
	for _, v := range all {
		next, e := version.Behind(v)
		last := v.Numbers[v.Many-1]
		if last == api.MaxNumber {
			if next != (api.Version{}) || e != api.ErrArg {
				t.Fatalf("Behind(%v): %v %d", v, next, e)
			}
			continue
		}
		want := tagged(v, "", 0)
		want.Numbers[v.Many-1]++
		if next != want || e != api.OK || version.Check(next) != api.OK {
			t.Fatalf("Behind(%v): %v %d", v, next, e)
		}
		if version.Compare(v, next) != -1 {
			t.Fatalf("%v is not ahead of %v", v, next)
		}
		for _, w := range all {
			if version.Begins(w, v) && version.Compare(w, next) != -1 {
				t.Fatalf("%v begins with %v, and is not ahead of %v", w, v, next)
			}
		}
	}
}

// R1: no call panics, or goes on without end, at whatever it is given.
func TestRuleEnds(t *testing.T) {
	all := bad()
	for _, v := range good() {
		all = append(all, v)
	}
	for _, a := range all {
		version.Check(a)
		version.Text(a)
		version.Behind(a)
		version.Sort(a)
		version.Latest(a)
		for _, b := range all {
			version.Compare(a, b)
			version.Begins(a, b)
		}
	}
	for _, piece := range []string{"0", "1", ".", "-", "a", "1.", "1-", "-a", "é", "\xff"} {
		long := strings.Repeat(piece, 1<<20)
		for _, s := range []string{long, "1" + long, "1." + long, "1-" + long, "1-a" + long} {
			if v, e := version.Read(s); v != (api.Version{}) || e != api.ErrVersion {
				t.Errorf("Read(%.20q..): %v %d", s, v, e)
			}
		}
		if e := version.Check(tagged(of(1), long, 0)); e != api.ErrVersion {
			t.Errorf("Check with the Tag %.20q..: %d", long, e)
		}
	}
}

// R3: what is handed in stays as it is, the room behind a list's end, too.
func TestRuleHandedIn(t *testing.T) {
	room := reads(t, "3", "1", "2-a", "2", "1", "0")
	room[2], room[5] = api.Version{}, tagged(of(7), "A", 0)
	was := slices.Clone(room)
	for n := range len(room) + 1 {
		if l := version.Sort(room[:n]...); len(l) > n || !slices.Equal(room, was) {
			t.Errorf("Sort of %d: %v %v", n, l, room)
		}
		if v, is := version.Latest(room[:n]...); is != (n > 0) || !slices.Equal(room, was) {
			t.Errorf("Latest of %d: %v %v %v", n, v, is, room)
		}
	}
}

// R3: what is answered is new memory, and what is handed in is not kept.
func TestRuleNewMemory(t *testing.T) {
	row := reads(t, "1", "2", "3")
	want := slices.Clone(row)
	first, second := version.Sort(row...), version.Sort(row...)
	latest, _ := version.Latest(row...)
	clear(row)
	if !slices.Equal(first, want) || !slices.Equal(second, want) || latest != want[2] {
		t.Errorf("the row was kept: %v %v %v", first, second, latest)
	}
	row = slices.Clone(want)
	clear(first[:cap(first)])
	if !slices.Equal(row, want) || !slices.Equal(second, want) || !slices.Equal(version.Sort(row...), want) {
		t.Errorf("the answer is no new memory: %v %v", row, second)
	}
}
