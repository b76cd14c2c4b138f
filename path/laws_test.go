package path_test

import (
	"slices"
	"strings"
	"testing"

	"puncheon/api"
	"puncheon/path"
)

// somePaths are all paths of at most three of a few names that lie close together.
func somePaths() []string {
	all := []string{"/"}
	for at := 0; at < len(all); at++ {
		if strings.Count(all[at], "/") == 3 {
			break
		}
		for _, name := range []string{"a", "a-", "a.b", "a0", "aa", "...", "b"} {
			all = append(all, strings.TrimSuffix(all[at], "/")+"/"+name)
		}
	}
	return append(all, deep(api.MaxDepth-1), deep(api.MaxDepth), "/"+long(api.MaxName))
}

// someTexts are all texts of at most five of a few parts.
func someTexts() []string {
	all := []string{""}
	for at := 0; at < len(all) && len(all) < 4000; at++ {
		for _, part := range []string{"a", "..", ".", "/", "B"} {
			all = append(all, all[at]+part)
		}
	}
	return all
}

// names are those of a path, found without the package that is tried.
func names(p string) []string {
	return strings.FieldsFunc(p, func(r rune) bool { return r == '/' })
}

// P1.6: Of of Names is the path.
func TestLawOfNames(t *testing.T) {
	for _, p := range append(somePaths(), goodPaths()...) {
		l, e := path.Names(p)
		if e != api.OK || !slices.Equal(l, names(p)) {
			t.Errorf("Names(%q): %q %d", p, l, e)
		}
		if back, e := path.Of(l...); e != api.OK || back != p {
			t.Errorf("Of(%q): %q %d", l, back, e)
		}
	}
}

// P1.6: cleaned a path is itself, wherever.
func TestLawCleanedPath(t *testing.T) {
	for _, p := range append(somePaths(), goodPaths()...) {
		for _, at := range goodPaths() {
			if c, e := path.Clean(at, p); e != api.OK || c != p {
				t.Errorf("Clean(%q, %q): %q %d", at, p, c, e)
			}
		}
	}
}

// clean does what the chapter says of a text, in the plainest way.
func clean(at, s string) (string, api.Errno) {
	l := names(at)
	if strings.HasPrefix(s, "/") {
		l = nil
	}
	for part := range strings.SplitSeq(s, "/") {
		switch {
		case part == "" || part == ".":
		case part == "..":
			l = l[:max(0, len(l)-1)]
		case !path.Name(part) || len(l) == api.MaxDepth:
			return "", api.ErrPath
		default:
			l = append(l, part)
		}
	}
	return "/" + strings.Join(l, "/"), api.OK
}

// P1.2, P1.6: what is cleaned is a path, and cleaned again the same.
func TestLawCleaned(t *testing.T) {
	for _, at := range []string{"/", "/a", "/b/a", "/b/.../a", deep(api.MaxDepth), deep(api.MaxDepth - 1)} {
		for _, s := range someTexts() {
			p, e := path.Clean(at, s)
			if want, wantE := clean(at, s); p != want || e != wantE {
				t.Fatalf("Clean(%q, %q): %q %d, not %q %d", at, s, p, e, want, wantE)
			}
			if e != api.OK {
				continue
			}
			if path.Check(p) != api.OK {
				t.Fatalf("Clean(%q, %q) is no path: %q", at, s, p)
			}
			if again, e := path.Clean(at, p); e != api.OK || again != p {
				t.Fatalf("Clean(%q, %q): %q %d", at, p, again, e)
			}
		}
	}
}

// P1.6: Up and Base are the path together.
func TestLawUpBase(t *testing.T) {
	for _, p := range append(somePaths(), goodPaths()...) {
		up, base := path.Up(p), path.Base(p)
		if p == "/" {
			continue
		}
		if path.Check(up) != api.OK || !path.Name(base) {
			t.Errorf("of %q: Up %q, Base %q", p, up, base)
		}
		if whole, e := path.Clean(up, base); e != api.OK || whole != p {
			t.Errorf("of %q: Up %q and Base %q are %q", p, up, base, whole)
		}
		if l, is := path.Beneath(p, up); !is || !slices.Equal(l, []string{base}) {
			t.Errorf("of %q: beneath %q stands %q", p, up, l)
		}
	}
}

// P1.4: p is under dir if its names begin with those of dir.
func TestLawUnder(t *testing.T) {
	for _, p := range somePaths() {
		for _, dir := range somePaths() {
			l, d := names(p), names(dir)
			want := len(d) <= len(l) && slices.Equal(l[:min(len(d), len(l))], d)
			got, is := path.Beneath(p, dir)
			if is != want || path.Under(p, dir) != want {
				t.Fatalf("%q under %q: %v", p, dir, is)
			}
			if is && !slices.Equal(got, l[len(d):]) || !is && len(got) != 0 {
				t.Fatalf("Beneath(%q, %q): %q", p, dir, got)
			}
		}
	}
}

// P1.5: the order is that of the names.
func TestLawCompare(t *testing.T) {
	for _, a := range somePaths() {
		for _, b := range somePaths() {
			if got, want := path.Compare(a, b), slices.Compare(names(a), names(b)); got != want {
				t.Fatalf("Compare(%q, %q): %d", a, b, got)
			}
		}
	}
}

// P1.6: what stands under a path stands, in order, behind it, side by side.
func TestLawSideBySide(t *testing.T) {
	all := somePaths()
	slices.Reverse(all)
	slices.SortFunc(all, path.Compare)
	for i, dir := range all {
		k := i
		for k < len(all) && path.Under(all[k], dir) {
			k++
		}
		count := 0
		for _, p := range all {
			if path.Under(p, dir) {
				count++
			}
		}
		if k-i != count {
			t.Errorf("of %d paths under %q just %d stand behind it side by side", count, dir, k-i)
		}
	}
}

// R1: no call panics, or goes on without end, at whatever it is given.
func TestRuleEnds(t *testing.T) {
	all := append(badPaths(), goodPaths()...)
	for n := range 256 {
		all = append(all, string([]byte{byte(n)}), "/"+string([]byte{byte(n)}), string([]byte{'/', byte(n), '/'}))
	}
	all = append(all, strings.Repeat("/a", 1<<20), strings.Repeat("a", 1<<20), strings.Repeat("../", 1<<20))
	for _, a := range all {
		path.Name(a)
		path.Check(a)
		path.Names(a)
		path.Of(a)
		path.Of(a, a)
		path.Up(a)
		path.Base(a)
	}
	for _, a := range all[:100] {
		for _, b := range all {
			path.Clean(a, b)
			path.Under(b, a)
			path.Beneath(b, a)
			path.Compare(a, b)
		}
	}
}

// R3: what is handed in stays as it is, the room behind a list's end, too, and is not kept.
func TestRuleHandedIn(t *testing.T) {
	room := []string{"a", "b", "c", "d"}
	p, e := path.Of(room[:2]...)
	if e != api.OK || p != "/a/b" || !slices.Equal(room, []string{"a", "b", "c", "d"}) {
		t.Errorf("Of: %q %d %q", p, e, room)
	}
	room[0] = "x"
	if again, _ := path.Of("a", "b"); p != "/a/b" || again != "/a/b" {
		t.Errorf("Of: %q %q", p, again)
	}
}

// R3: what is answered is new memory.
func TestRuleNewMemory(t *testing.T) {
	first, _ := path.Names("/a/b/c")
	for i := range first {
		first[i] = "x"
	}
	second, _ := path.Names("/a/b/c")
	third, _ := path.Beneath("/a/b/c", "/a")
	third[0] = "x"
	fourth, _ := path.Beneath("/a/b/c", "/a")
	if !slices.Equal(second, []string{"a", "b", "c"}) || !slices.Equal(fourth, []string{"b", "c"}) {
		t.Errorf("%q %q", second, fourth)
	}
}
