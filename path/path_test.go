package path_test

import (
	"slices"
	"strings"
	"testing"

	"puncheon/api"
	"puncheon/path"
)

const letters = "abcdefghijklmnopqrstuvwxyz0123456789._+-"

// deep is the path of n names x.
func deep(n int) string {
	if n == 0 {
		return "/"
	}
	return strings.Repeat("/x", n)
}

// long is a name of n bytes.
func long(n int) string {
	return strings.Repeat("n", n)
}

func goodPaths() []string {
	return []string{
		"/", "/a", "/a/b.c", "/a/b/c", "/...", "/.a", "/a.", "/-", "/+/_", "/0/9/z",
		"/" + long(api.MaxName), "/a/" + long(api.MaxName) + "/b",
		deep(api.MaxDepth - 1), deep(api.MaxDepth),
		strings.Repeat("/"+long(api.MaxName), api.MaxDepth),
	}
}

func badPaths() []string {
	return []string{
		"", "a", "a/b", "//", "/a/", "/a//b", "//a", "/A", "/.", "/..", "/a/.", "/a/..", "/./a", "/../a",
		"/a b", " /a", "/a ", "/a\x00", "/a\n", "\x00", "/é", "/\xff", "/a\\b", "/a:b", "/~", "/*", ".", "..", "./a",
		"/" + long(api.MaxName+1), "/a/" + long(api.MaxName+1) + "/b", "/a/" + strings.Repeat("é", api.MaxName/2),
		deep(api.MaxDepth + 1), deep(api.MaxDepth) + "/", deep(2 * api.MaxDepth), strings.Repeat("/", 1<<16), strings.Repeat("/a", 1<<16),
	}
}

// P1.1: Name, byte by byte, at each place of a name.
func TestNameLetters(t *testing.T) {
	for n := range 256 {
		c := string([]byte{byte(n)})
		want := strings.Contains(letters, c)
		for _, s := range []string{"a" + c, c + "a", "a" + c + "a", c + c + c} {
			if got := path.Name(s); got != want {
				t.Errorf("Name(%q): %v", s, got)
			}
		}
		if got := path.Name(c); got != (want && c != ".") {
			t.Errorf("Name(%q): %v", c, got)
		}
	}
	// The last two have the low bits of a letter.
	for _, s := range []string{"é", "aé", "日本", "a\u0301", "\u0161", "\U00010061"} {
		if path.Name(s) {
			t.Errorf("Name(%q)", s)
		}
	}
}

// P1.1: Name, how long it may be, and what stands for no name.
func TestNameEdges(t *testing.T) {
	for _, s := range []string{"a", "...", ".a", "a.", "..a", "a..", "._", "-", "--", "+", "_", "0", long(api.MaxName - 1), long(api.MaxName), strings.Repeat(".", api.MaxName)} {
		if !path.Name(s) {
			t.Errorf("no Name(%q)", s)
		}
	}
	for _, s := range []string{"", ".", "..", "/", "a/", "/a", "a/b", "A", "a b", long(api.MaxName + 1), long(1 << 16), strings.Repeat(".", api.MaxName+1)} {
		if path.Name(s) {
			t.Errorf("Name(%q)", s)
		}
	}
}

// P1.1: Check.
func TestCheck(t *testing.T) {
	for _, p := range goodPaths() {
		if e := path.Check(p); e != api.OK {
			t.Errorf("Check(%q): %d", p, e)
		}
	}
	for _, p := range badPaths() {
		if e := path.Check(p); e != api.ErrPath {
			t.Errorf("Check(%.50q): %d", p, e)
		}
	}
}

// P1.1: Names.
func TestNames(t *testing.T) {
	for p, want := range map[string][]string{
		"/":                      {},
		"/a":                     {"a"},
		"/a/b.c":                 {"a", "b.c"},
		"/b/a/b":                 {"b", "a", "b"},
		"/.../-":                 {"...", "-"},
		"/" + long(api.MaxName):  {long(api.MaxName)},
		deep(api.MaxDepth):       slices.Repeat([]string{"x"}, api.MaxDepth),
		deep(api.MaxDepth - 1):   slices.Repeat([]string{"x"}, api.MaxDepth-1),
		deep(3) + "/y" + deep(2): {"x", "x", "x", "y", "x", "x"},
	} {
		if l, e := path.Names(p); e != api.OK || !slices.Equal(l, want) {
			t.Errorf("Names(%q): %q %d", p, l, e)
		}
	}
	for _, p := range badPaths() {
		if l, e := path.Names(p); e != api.ErrPath || len(l) != 0 {
			t.Errorf("Names(%.50q): %.50q %d", p, l, e)
		}
	}
}

// P1.1: Of.
func TestOf(t *testing.T) {
	xs := slices.Repeat([]string{"x"}, api.MaxDepth+1)
	for _, q := range []struct {
		l    []string
		want string
	}{
		{nil, "/"},
		{[]string{}, "/"},
		{[]string{"a"}, "/a"},
		{[]string{"a", "b.c"}, "/a/b.c"},
		{[]string{"...", "b", "..."}, "/.../b/..."},
		{[]string{long(api.MaxName), "a"}, "/" + long(api.MaxName) + "/a"},
		{xs[:api.MaxDepth], deep(api.MaxDepth)},
		{xs[:api.MaxDepth-1], deep(api.MaxDepth - 1)},
	} {
		if p, e := path.Of(q.l...); e != api.OK || p != q.want {
			t.Errorf("Of(%q): %q %d", q.l, p, e)
		}
	}
	for _, l := range [][]string{
		xs, slices.Repeat(xs, 2), {""}, {"a", ""}, {"", "a"}, {"."}, {"a", ".."}, {"a", "..", "b"}, {"/"}, {"/a"}, {"a/b"}, {"a", "B"}, {"é"},
		{long(api.MaxName + 1)}, {"a", long(api.MaxName + 1), "b"}, append(slices.Clone(xs[:api.MaxDepth-1]), "A"), append(slices.Clone(xs[:api.MaxDepth]), ""),
	} {
		if p, e := path.Of(l...); e != api.ErrPath || p != "" {
			t.Errorf("Of(%q): %q %d", l, p, e)
		}
	}
}

// P1.2: Clean, of what may be.
func TestClean(t *testing.T) {
	full := deep(api.MaxDepth)
	for _, q := range []struct{ at, s, want string }{
		{"/a/b", "../c//./d", "/a/c/d"},
		{"/a", "/x/..", "/"},
		{"/", "../../q", "/q"},
		{"/", "", "/"},
		{"/", "/", "/"},
		{"/", ".", "/"},
		{"/", "..", "/"},
		{"/a/b", "", "/a/b"},
		{"/a/b", "/", "/"},
		{"/a/b", "///", "/"},
		{"/a/b", ".", "/a/b"},
		{"/a/b", "./.", "/a/b"},
		{"/a/b", "..", "/a"},
		{"/a/b", "../..", "/"},
		{"/a/b", "../../..", "/"},
		{"/a/b", "/..", "/"},
		{"/a/b", "c", "/a/b/c"},
		{"/a/b", "c/", "/a/b/c"},
		{"/a/b", "c//d", "/a/b/c/d"},
		{"/a/b", "./c/.", "/a/b/c"},
		{"/a/b", "c/..", "/a/b"},
		{"/a/b", "c/../../d", "/a/d"},
		{"/a/b", "/c", "/c"},
		{"/a/b", "//c", "/c"},
		{"/a/b", "/./c/../d/", "/d"},
		{"/a", "...", "/a/..."},
		{"/a", ".../..", "/a"},
		{"/a", "..a/.b", "/a/..a/.b"},
		{"/a", long(api.MaxName), "/a/" + long(api.MaxName)},
		{"/", full, full},
		{full, "", full},
		{full, "..", deep(api.MaxDepth - 1)},
		{full, "../y", deep(api.MaxDepth-1) + "/y"},
		{full, "/y", "/y"},
		{full, full, full},
		{deep(api.MaxDepth - 1), "y", deep(api.MaxDepth-1) + "/y"},
		{deep(api.MaxDepth - 1), "y/./../y/", deep(api.MaxDepth-1) + "/y"},
		{"/", strings.Repeat("x/../", 100), "/"},
	} {
		if p, e := path.Clean(q.at, q.s); e != api.OK || p != q.want {
			t.Errorf("Clean(%q, %q): %q %d, not %q", q.at, q.s, p, e, q.want)
		}
	}
}

// P1.2: Clean, of what may not stand; the path has too many names, if only for a while.
func TestCleanErrPath(t *testing.T) {
	for _, q := range []struct{ at, s string }{
		{"/", "a b"}, {"/", "A"}, {"/a", "b/C/d"}, {"/a", "é"}, {"/a", "b\x00"}, {"/a", "\xff"},
		{"/a", "A/.."}, {"/a", "/ /.."}, {"/a", long(api.MaxName + 1)}, {"/a", long(api.MaxName+1) + "/../b"},
		{deep(api.MaxDepth), "y"}, {deep(api.MaxDepth), "y/.."}, {deep(api.MaxDepth - 1), "y/z"}, {deep(api.MaxDepth - 1), "y/z/../.."},
		{"/", deep(api.MaxDepth + 1)}, {"/", deep(api.MaxDepth+1) + "/.."}, {"/a", deep(api.MaxDepth + 1)},
	} {
		if p, e := path.Clean(q.at, q.s); e != api.ErrPath || p != "" {
			t.Errorf("Clean(%q, %q): %q %d", q.at, q.s, p, e)
		}
	}
	for _, at := range badPaths() {
		for _, s := range []string{"", "a", "/a", "A", "..", long(api.MaxLong + 1)} {
			if p, e := path.Clean(at, s); e != api.ErrPath || p != "" {
				t.Errorf("Clean(%.50q, %.50q): %q %d", at, s, p, e)
			}
		}
	}
}

// P1.2: Clean, how long a text may be; which error is first.
func TestCleanErrLong(t *testing.T) {
	dots := strings.Repeat("./", api.MaxLong/2)
	for _, s := range []string{dots, strings.Repeat("/", api.MaxLong), "b" + strings.Repeat("/", api.MaxLong-1)} {
		if len(s) != api.MaxLong {
			t.Fatalf("a text of %d bytes", len(s))
		}
		if _, e := path.Clean("/a", s); e != api.OK {
			t.Errorf("Clean of MaxLong bytes: %d", e)
		}
	}
	if _, e := path.Clean("/a", strings.Repeat("é", api.MaxLong/2)); e != api.ErrPath {
		t.Errorf("Clean of MaxLong bytes that may not stand: %d", e)
	}
	for _, s := range []string{dots + "/", dots + "A", strings.Repeat("/", api.MaxLong+1), "A" + dots, strings.Repeat("é", api.MaxLong/2) + "a", strings.Repeat("a", 1<<16)} {
		if p, e := path.Clean("/a", s); e != api.ErrLong || p != "" {
			t.Errorf("Clean of %d bytes: %q %d", len(s), p, e)
		}
	}
}

// P1.3: Up and Base.
func TestUpBase(t *testing.T) {
	for p, want := range map[string][2]string{
		"/":                     {"/", ""},
		"/a":                    {"/", "a"},
		"/a/b":                  {"/a", "b"},
		"/a/b.c/d-e":            {"/a/b.c", "d-e"},
		"/a/a":                  {"/a", "a"},
		"/" + long(api.MaxName): {"/", long(api.MaxName)},
		deep(api.MaxDepth):      {deep(api.MaxDepth - 1), "x"},
	} {
		if up, base := path.Up(p), path.Base(p); up != want[0] || base != want[1] {
			t.Errorf("of %q: Up %q, Base %q", p, up, base)
		}
	}
	for _, p := range badPaths() {
		if up, base := path.Up(p), path.Base(p); up != "" || base != "" {
			t.Errorf("of %.50q: Up %.50q, Base %.50q", p, up, base)
		}
	}
}

// P1.4: Under and Beneath.
func TestUnderBeneath(t *testing.T) {
	for _, q := range []struct {
		p, dir string
		under  bool
		names  []string
	}{
		{"/", "/", true, nil},
		{"/a", "/", true, []string{"a"}},
		{"/a/b", "/", true, []string{"a", "b"}},
		{"/a", "/a", true, nil},
		{"/a/b", "/a", true, []string{"b"}},
		{"/a/b/c", "/a", true, []string{"b", "c"}},
		{"/a/b/c", "/a/b", true, []string{"c"}},
		{"/a/b/c", "/a/b/c", true, nil},
		{deep(api.MaxDepth), deep(api.MaxDepth - 1), true, []string{"x"}},
		{"/", "/a", false, nil},
		{"/a", "/a/b", false, nil},
		{"/ab", "/a", false, nil},
		{"/a", "/ab", false, nil},
		{"/a-b", "/a", false, nil},
		{"/a.b/c", "/a", false, nil},
		{"/a/bc", "/a/b", false, nil},
		{"/b/a", "/a", false, nil},
		{"/b", "/a", false, nil},
	} {
		if got := path.Under(q.p, q.dir); got != q.under {
			t.Errorf("Under(%q, %q): %v", q.p, q.dir, got)
		}
		if l, is := path.Beneath(q.p, q.dir); is != q.under || !slices.Equal(l, q.names) {
			t.Errorf("Beneath(%q, %q): %q %v", q.p, q.dir, l, is)
		}
	}
}

// P1.4: Under and Beneath, of what is no path.
func TestUnderBeneathOfNoPath(t *testing.T) {
	for _, bad := range badPaths() {
		for _, q := range [][2]string{{bad, bad}, {bad, "/"}, {bad, "/a"}, {"/", bad}, {"/a", bad}, {"/a/b", bad}, {deep(api.MaxDepth), bad}} {
			l, is := path.Beneath(q[0], q[1])
			if is || len(l) != 0 || path.Under(q[0], q[1]) {
				t.Errorf("%.50q is under %.50q: %q", q[0], q[1], l)
			}
		}
	}
}

// P1.5: Compare.
func TestCompare(t *testing.T) {
	rising := []string{
		// What is no path.
		"", "/A", "/a ", "/a/", "0", "a", "\xff",
		// Paths.
		"/", "/+", "/-", "/...", "/.a", "/0", "/_", "/a", "/a/+", "/a/b", "/a/b/c", "/a/b-c", "/a/c", "/a+", "/a-b", "/a-b/c", "/a.b", "/a0", "/aa", "/ab", "/b", "/b/a",
	}
	for i, a := range rising {
		for k, b := range rising {
			want := 0
			if i < k {
				want = -1
			} else if i > k {
				want = 1
			}
			if got := path.Compare(a, b); got != want {
				t.Errorf("Compare(%q, %q): %d", a, b, got)
			}
		}
	}
}

// P1.5: what is no path stands ahead of all paths.
func TestCompareOfNoPath(t *testing.T) {
	for _, bad := range badPaths() {
		for _, p := range goodPaths() {
			if path.Compare(bad, p) != -1 || path.Compare(p, bad) != 1 {
				t.Errorf("Compare(%.50q, %.50q)", bad, p)
			}
		}
		for _, other := range badPaths() {
			if got := path.Compare(bad, other); got != strings.Compare(bad, other) {
				t.Errorf("Compare(%.50q, %.50q): %d", bad, other, got)
			}
		}
	}
}

// The rows of the chapter's Examples, as they stand there.
func TestChapterExamples(t *testing.T) {
	for _, q := range []struct {
		p    string
		want api.Errno
	}{{"/a/b.c", api.OK}, {"/", api.OK}, {"/a/", api.ErrPath}, {"a", api.ErrPath}, {"/A", api.ErrPath}, {"/..", api.ErrPath}} {
		if e := path.Check(q.p); e != q.want {
			t.Errorf("Check(%s): %d", q.p, e)
		}
	}
	for _, q := range []struct {
		at, s, want string
		e           api.Errno
	}{{"/a/b", "../c//./d", "/a/c/d", api.OK}, {"/a", "/x/..", "/", api.OK}, {"/", "../../q", "/q", api.OK}, {"/", "a b", "", api.ErrPath}} {
		if p, e := path.Clean(q.at, q.s); p != q.want || e != q.e {
			t.Errorf("Clean(%s, %s): %s %d", q.at, q.s, p, e)
		}
	}
	if path.Up("/a/b") != "/a" || path.Base("/a/b") != "b" || path.Up("/") != "/" || path.Base("/") != "" {
		t.Error("Up, Base")
	}
	if l, is := path.Beneath("/a/b/c", "/a"); !is || !slices.Equal(l, []string{"b", "c"}) || !path.Under("/a/b", "/a") || path.Under("/ab", "/a") {
		t.Errorf("Under, Beneath: %q %v", l, is)
	}
	if path.Compare("/a/b", "/a-b") != -1 || path.Compare("/a", "/a/b") != -1 || path.Compare("/a", "/a") != 0 {
		t.Error("Compare")
	}
}
