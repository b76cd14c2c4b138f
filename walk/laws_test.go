package walk_test

import (
	"slices"
	"strings"
	"testing"

	"puncheon/api"
	"puncheon/path"
	"puncheon/tree"
	"puncheon/walk"
)

// model is a second reading of the chapter: what stands at which path, / among it.
type model map[string]api.Item

func modelOf(t api.Tree) model {
	m := model{"/": dir("/")}
	for _, item := range t.Items {
		m[item.Path] = item
	}
	return m
}

// above is a path without its last name.
func above(p string) string {
	return p[:max(1, strings.LastIndexByte(p, '/'))]
}

// lead goes on as a text: what a link says is put ahead of the text that is left, with a slash between them.
func (m model) lead(at, s string, last bool) (api.Item, int, api.Errno) {
	switch start, is := m[at]; {
	case path.Check(at) != api.OK:
		return api.Item{}, 0, api.ErrPath
	case !is:
		return api.Item{}, 0, api.ErrNone
	case start.Kind != api.KDir:
		return api.Item{}, 0, api.ErrKind
	}
	hops := 0
	if s != "" && s[0] == '/' {
		at = "/"
	}
	for {
		part, behind, more := strings.Cut(s, "/")
		next := strings.ReplaceAll(at+"/"+part, "//", "/")
		switch part {
		case "", ".":
			next = at
		case "..":
			next = above(at)
		}
		item, is := m[next]
		if !is {
			return api.Item{}, 0, api.ErrNone
		}
		if item.Kind == api.KFile && more {
			return api.Item{}, 0, api.ErrKind
		}
		if item.Kind != api.KLink || !more && !last {
			at, s = next, behind
			if !more {
				return item, hops, api.OK
			}
			continue
		}
		if hops++; hops > 40 {
			return api.Item{}, 0, api.ErrLoop
		}
		s = item.Data
		if more {
			s += "/" + behind
		}
		if s[0] == '/' {
			at = "/"
		}
	}
}

// lookup is the place of the first of the directories from which the second reading comes to something.
func (m model) lookup(dirs []string, s string) (int, api.Item, api.Errno) {
	for place, d := range dirs {
		if item, _, e := m.lead(d, s, true); e == api.OK {
			return place, item, api.OK
		}
	}
	return -1, api.Item{}, api.ErrNone
}

// woods are trees of a few names that lie close together, with links of all sorts.
func woods() []api.Tree {
	return []api.Tree{
		of(),
		of(file("/a", "1"), link("/l", "a")),
		of(link("/a", "a/"), link("/l", "..")),
		of(link("/a", "l"), link("/l", "a")),
		of(dir("/a"), dir("/a/a"), file("/a/a/a", "1"), file("/a/b", "2"), link("/a/l", ".."), link("/l", "a/a")),
		of(dir("/a"), link("/a/a", "/"), link("/a/b", "../b"), link("/a/l", "./l"), file("/b", "1"), link("/l", "/a/a")),
		of(dir("/a"), dir("/a/b"), dir("/a/b/l"), link("/a/l", "b//l/../"), dir("/b"), link("/b/a", "../../a/l/b"), link("/b/l", "../l"), link("/l", "a/../b/.")),
		of(dir("/a"), link("/a/a", "b"), link("/a/b", "../a"), dir("/a/l"), file("/a/l/a", "1"), link("/b", "/a/b/a"), link("/l", "b/l")),
		of(dir("/a"), dir("/a/a"), link("/a/a/a", "../../l/b"), link("/a/a/l", "/l/l"), link("/b", "a/a/"), dir("/l"), link("/l/a", ".././/a/a/b"), file("/l/b", "1"), link("/l/l", "/b/..")),
		of(link("/a", "l/l/x"), link("/b", "x/.."), link("/l", ".")),
		some(), chain(3, "../d"),
	}
}

// someTexts are all texts of at most so many of a few parts.
func someTexts(most int) []string {
	row := []string{"a", "b", "l", "..", ".", ""}
	all := slices.Clone(row)
	for at := 0; strings.Count(all[at], "/") < most-1; at++ {
		for _, part := range row {
			all = append(all, all[at]+"/"+part)
		}
	}
	return all
}

// held holds all three calls against the second reading.
func held(t *testing.T, now api.Tree, at, s string) {
	t.Helper()
	m := modelOf(now)
	for _, last := range []bool{true, false} {
		want, _, wantE := m.lead(at, s, last)
		if got, e := walk.Resolve(now, at, s, last); got != want || e != wantE {
			t.Fatalf("of %v: Resolve(%q, %q, %v): %v %d, not %v %d", now, at, s, last, got, e, want, wantE)
		}
	}
	_, wantHops, wantE := m.lead(at, s, true)
	if n, e := walk.Hops(now, at, s); n != wantHops || e != wantE {
		t.Fatalf("of %v: Hops(%q, %q): %d %d, not %d %d", now, at, s, n, e, wantHops, wantE)
	}
}

// P7.1, P7.2: each of many texts, in each of some trees, from wherever, leads where the second reading leads.
func TestLawResolve(t *testing.T) {
	for _, now := range woods() {
		for _, at := range []string{"/", "/a", "/a/a", "/b", "/l", "/x", "/a/"} {
			for _, s := range someTexts(4) {
				held(t, now, at, s)
			}
		}
	}
}

// numbers answers numbers that go up and down, the same ones each time.
func numbers() func(n int) int {
	state := uint64(12345)
	return func(n int) int {
		state = state*6364136223846793005 + 1442695040888963407
		return int(state>>33) % n
	}
}

// someText is a text of at most so many parts.
func someText(next func(int) int, most int) string {
	row := []string{"a", "b", "l", "a", "b", "l", "..", ".", "", "x"}
	var parts []string
	for range 1 + next(most) {
		parts = append(parts, row[next(len(row))])
	}
	return strings.Join(parts, "/")
}

// someTree is a tree of a few names, in which about each third thing is a link.
func someTree(next func(int) int) api.Tree {
	items := []api.Item{}
	dirs := []string{""}
	for at := 0; at < len(dirs) && len(items) < 40; at++ {
		for _, name := range []string{"a", "b", "l"} {
			p := dirs[at] + "/" + name
			switch kind := next(8); {
			case kind < 3:
				items, dirs = append(items, dir(p)), append(dirs, p)
			case kind == 3:
				items = append(items, file(p, p))
			case kind < 7:
				items = append(items, link(p, orDot(someText(next, 3))))
			}
		}
	}
	now, _ := tree.Of(items)
	return now
}

// orDot is the text, or a dot for an empty one, which no link says.
func orDot(s string) string {
	if s == "" {
		return "."
	}
	return s
}

// P7.1 to P7.3: trees and texts of all sorts lead where the second reading leads.
func TestLawManyTrees(t *testing.T) {
	next := numbers()
	counted := map[api.Errno]int{}
	for range 1500 {
		now := someTree(next)
		m := modelOf(now)
		var places []string
		for p := range m {
			places = append(places, p)
		}
		slices.Sort(places)
		places = append(places, "/x", "a", "")
		for range 20 {
			s := someText(next, 8)
			held(t, now, places[next(len(places))], s)
			var dirs []string
			for range next(5) {
				dirs = append(dirs, places[next(len(places))])
			}
			want, item, wantE := m.lookup(dirs, s)
			if place, got, e := walk.Lookup(now, dirs, s); place != want || got != item || e != wantE {
				t.Fatalf("of %v: Lookup(%q, %q): %d %v %d, not %d %v %d", now, dirs, s, place, got, e, want, item, wantE)
			}
			_, _, e := m.lead("/", s, true)
			counted[e]++
		}
	}
	for _, e := range []api.Errno{api.OK, api.ErrNone, api.ErrKind, api.ErrLoop} {
		if counted[e] < 100 {
			t.Errorf("just %d of the ways came to %d", counted[e], e)
		}
	}
}

// P7.4: what it leads to stands in the tree, and is no link, if the last one is followed; from its path it leads to itself, over no link.
func TestLawLeadsToItself(t *testing.T) {
	next := numbers()
	for range 1500 {
		now := someTree(next)
		for range 10 {
			s := someText(next, 6)
			for _, last := range []bool{true, false} {
				got, e := walk.Resolve(now, "/", s, last)
				if e != api.OK {
					continue
				}
				if stands, is := tree.Get(now, got.Path); !is || stands != got || last && got.Kind == api.KLink {
					t.Fatalf("of %v: %q leads to %v, where %v stands", now, s, got, stands)
				}
				for _, at := range []string{"/", "/a", "/b", "/l"} {
					if d, is := tree.Get(now, at); !is || d.Kind != api.KDir {
						continue
					}
					if again, e := walk.Resolve(now, at, got.Path, last); again != got || e != api.OK {
						t.Fatalf("of %v: %v leads to %v %d", now, got, again, e)
					}
					if n, e := walk.Hops(now, at, got.Path); got.Kind != api.KLink && (n != 0 || e != api.OK) {
						t.Fatalf("of %v: over %d links to %v %d", now, n, got, e)
					}
				}
			}
		}
	}
}

// plain is a tree without links.
func plain() api.Tree {
	return of(dir("/a"), dir("/a/a"), file("/a/a/a", "1"), dir("/a/b"), dir("/a/b/l"), file("/a/l", "2"), dir("/b"), file("/b/a", "3"), dir("/b/b"), dir("/b/b/a"), file("/l", "4"))
}

// onTheWay tells whether all stands in the tree to which the parts of s lead from at, one by one, all but the last one being directories.
func onTheWay(m model, at, s string) bool {
	parts := strings.Split(s, "/")
	for n := range parts {
		p, e := path.Clean(at, strings.Join(parts[:n+1], "/"))
		item, is := m[p]
		if e != api.OK || !is || item.Kind != api.KDir && n+1 < len(parts) {
			return false
		}
	}
	return true
}

// P7.4: without links a text leads to where path.Clean says, as long as all that is on its way is there, over no link; else to nothing.
func TestLawClean(t *testing.T) {
	now, many := plain(), 0
	for _, at := range []string{"/", "/a", "/a/b", "/b/b", "/b/b/a"} {
		for _, s := range someTexts(5) {
			p, e := path.Clean(at, s)
			for _, last := range []bool{true, false} {
				got, gotE := walk.Resolve(now, at, s, last)
				if stands := onTheWay(modelOf(now), at, s); stands != (gotE == api.OK) || stands && (e != api.OK || got.Path != p) {
					t.Fatalf("Resolve(%q, %q, %v): %v %d; Clean: %q %d", at, s, last, got, gotE, p, e)
				}
			}
			if n, gotE := walk.Hops(now, at, s); n != 0 || gotE == api.ErrLoop {
				t.Fatalf("Hops(%q, %q): %d %d", at, s, n, gotE)
			}
			if e == api.OK {
				many++
			}
		}
	}
	if many < 1000 {
		t.Errorf("just %d texts are cleaned", many)
	}
}

// P7.4: a directory more in front of dirs that has nothing changes nothing but the place.
func TestLawInFront(t *testing.T) {
	next := numbers()
	for range 800 {
		now := someTree(next)
		dirs := []string{"/", "/a", "/b", "/a/a", "/l", "/x", "a"}
		for range 10 {
			s := someText(next, 5)
			some := dirs[next(len(dirs)):]
			place, item, e := walk.Lookup(now, some, s)
			for _, d := range []string{"/", "/a", "/b", "/l", "/x", "", "x", "/a/b"} {
				front, more, frontE := walk.Lookup(now, append([]string{d}, some...), s)
				_, alone := walk.Resolve(now, d, s, true)
				switch {
				case alone == api.OK && (front != 0 || frontE != api.OK),
					alone != api.OK && (more != item || frontE != e),
					alone != api.OK && place >= 0 && front != place+1,
					alone != api.OK && place < 0 && front != -1:
					t.Fatalf("of %v: Lookup(%q ahead of %q, %q): %d %v %d, not %d %v %d", now, d, some, s, front, more, frontE, place, item, e)
				}
			}
		}
	}
}

// R1: no call panics, or goes on without end, at whatever it is given.
func TestRuleEnds(t *testing.T) {
	wide := strings.Repeat("l/", api.MaxLong/2)
	trees := append(badTrees(), some(), chain(api.MaxHops+1, "c"), of(link("/l", wide)), of(dir("/a"), link("/a/l", "../l/"), link("/l", "./"+wide[2:])), of(dir("/a"), link("/l", strings.Repeat("a/../", api.MaxLong/5-1)+"l/a")))
	trees = append(trees, of(make([]api.Item, 1<<16)...), of(file(strings.Repeat("/a", 1<<18), "")), of(link("/l", strings.Repeat("l/", 1<<20))))
	texts := []string{"", "/", ".", "..", "l", "l/", "/l/l", wide, wide[:len(wide)-1], strings.Repeat("/", api.MaxAsk), strings.Repeat("../", 1<<16), strings.Repeat("a/", 1<<16), strings.Repeat("\xff", 1<<16), "\x00", "//l//"}
	for _, now := range trees {
		for _, s := range texts {
			for _, at := range append(badPaths(), "/", "/a", "/l", "/x", strings.Repeat("/a", 1<<18)) {
				walk.Resolve(now, at, s, true)
				walk.Resolve(now, at, s, false)
				walk.Hops(now, at, s)
			}
			walk.Lookup(now, badPaths(), s)
			walk.Lookup(now, make([]string, 1000), s)
		}
	}
}

// roomy answers the items with room behind their end, in which something stands.
func roomy(l []api.Item) []api.Item {
	return append(slices.Clone(l), file("/room", "1"), link("/room", "2"), dir("/room"), dir("/room"))[:len(l)]
}

// R3: what is handed in stays as it is, the room behind a list's end, too.
func TestRuleHandedIn(t *testing.T) {
	for _, now := range append(append(woods(), plain()), badTrees()...) {
		in := roomy(now.Items)
		items := slices.Clone(in[:len(in)+4])
		for _, s := range []string{"", "/", "a", "a/l/m", "l", "l/", "/b/o", "../a/f", "x", "b/../l/..", strings.Repeat("/", api.MaxAsk+1)} {
			dirs := []string{"/x", "x", "/b", "/a", "/", "/room", "/a", ""}
			whole := slices.Clone(dirs)
			for _, at := range whole {
				walk.Resolve(of(in...), at, s, true)
				walk.Resolve(of(in...), at, s, false)
				walk.Hops(of(in...), at, s)
			}
			for n := range dirs {
				walk.Lookup(of(in...), dirs[:n], s)
			}
			if !slices.Equal(in[:len(in)+4], items) || !slices.Equal(dirs, whole) {
				t.Fatalf("changed at %.60q: %.300v %q", s, in[:len(in)+4], dirs)
			}
		}
	}
}

// R3, R5: what was handed in is not kept: the same list with something else in it is asked anew.
func TestRuleNotKept(t *testing.T) {
	in := some().Items
	now := of(in...)
	asked(t, now, ask{"/", "a/f", true, file("/a/f", "\x07"), api.OK}, ask{"/", "a/l", true, dir("/b"), api.OK})
	hops(t, now, "/", "a/l/m", 2)
	dirs := []string{"/b", "/a"}
	lookup(t, now, dirs, "f", 1, file("/a/f", "\x07"))
	got, _ := walk.Resolve(now, "/", "a/f", true)
	_, found, _ := walk.Lookup(now, dirs, "f")

	in[1], in[2], in[4] = file("/a/f", "new"), link("/a/l", "."), file("/b/m", "m")
	dirs[0] = "/a"
	if got != file("/a/f", "\x07") || found != got {
		t.Errorf("what was answered has changed: %v %v", got, found)
	}
	asked(t, now, ask{"/", "a/f", true, file("/a/f", "new"), api.OK}, ask{"/", "a/l", true, dir("/a"), api.OK}, ask{"/", "b/m", true, file("/b/m", "m"), api.OK})
	hops(t, now, "/", "a/l/l/f", 2)
	lookup(t, now, dirs, "f", 0, file("/a/f", "new"))

	in[5] = link("/b/l", "q")
	refused(t, now, "/", "a/f", api.ErrTree)
	in[5] = link("/b/o", "m")
	asked(t, now, ask{"/", "b/o", true, file("/b/m", "m"), api.OK})
}

// R5: what is answered hangs on nothing that was asked ahead.
func TestRuleSame(t *testing.T) {
	next := numbers()
	for range 300 {
		now := someTree(next)
		s, other := someText(next, 6), someText(next, 6)
		dirs := []string{"/x", "/a", "/b", "/"}
		item, e := walk.Resolve(now, "/", s, true)
		many, manyE := walk.Hops(now, "/", s)
		place, found, foundE := walk.Lookup(now, dirs, s)
		walk.Resolve(now, "/a", other, false)
		walk.Hops(some(), "/b", "o")
		walk.Lookup(chain(9, "/d"), dirs, other)
		again, againE := walk.Resolve(copied(now), "/", s, true)
		if again != item || againE != e {
			t.Fatalf("of %v: Resolve(%q): %v %d, then %v %d", now, s, item, e, again, againE)
		}
		if n, nE := walk.Hops(copied(now), "/", s); n != many || nE != manyE {
			t.Fatalf("of %v: Hops(%q): %d %d, then %d %d", now, s, many, manyE, n, nE)
		}
		if p, x, xE := walk.Lookup(copied(now), slices.Clone(dirs), s); p != place || x != found || xE != foundE {
			t.Fatalf("of %v: Lookup(%q): %d %v %d, then %d %v %d", now, s, place, found, foundE, p, x, xE)
		}
	}
}

// copied is the same tree in other memory.
func copied(t api.Tree) api.Tree {
	return of(slices.Clone(t.Items)...)
}
