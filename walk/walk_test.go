package walk_test

import (
	"strconv"
	"strings"
	"testing"

	"puncheon/api"
	"puncheon/walk"
)

func dir(p string) api.Item {
	return api.Item{Path: p, Kind: api.KDir}
}

func file(p, data string) api.Item {
	return api.Item{Path: p, Kind: api.KFile, Data: data}
}

func link(p, text string) api.Item {
	return api.Item{Path: p, Kind: api.KLink, Data: text}
}

// of is the tree of just these items, as they come.
func of(l ...api.Item) api.Tree {
	return api.Tree{Items: l}
}

// deep is the path of n names x.
func deep(n int) string {
	return strings.Repeat("/x", n)
}

// deepDirs are the n directories of which each stands in the one ahead.
func deepDirs(n int) []api.Item {
	var l []api.Item
	for k := range n {
		l = append(l, dir(deep(k+1)))
	}
	return l
}

// some is the tree of the chapter's examples.
func some() api.Tree {
	return of(dir("/a"), file("/a/f", "\x07"), link("/a/l", "../b"), dir("/b"), link("/b/m", "/a/f"), link("/b/o", "o"))
}

// chain is a tree of n links in /c, of which each says the next one, and the last one says to.
func chain(n int, to string) api.Tree {
	l := []api.Item{dir("/c")}
	for k := 1; k < n; k++ {
		l = append(l, link(chained(k), strings.TrimPrefix(chained(k+1), "/c/")))
	}
	return of(append(l, link(chained(n), to), dir("/d"), file("/d/f", "9"))...)
}

// chained is the path of the link at that place of a chain.
func chained(k int) string {
	return "/c/" + strconv.Itoa(100+k)
}

// ask is what is asked of a tree, and what is to be answered.
type ask struct {
	at, s string
	last  bool
	want  api.Item
	e     api.Errno
}

// asked holds Resolve, and where the last part is followed Hops and Lookup, too, against what is to be answered.
func asked(t *testing.T, now api.Tree, l ...ask) {
	t.Helper()
	for _, q := range l {
		got, e := walk.Resolve(now, q.at, q.s, q.last)
		if got != q.want || e != q.e {
			t.Errorf("Resolve(%.60q, %.60q, %v): %.200v %d, not %.200v %d", q.at, q.s, q.last, got, e, q.want, q.e)
		}
		if !q.last {
			continue
		}
		if n, e := walk.Hops(now, q.at, q.s); e != q.e || e != api.OK && n != 0 {
			t.Errorf("Hops(%.60q, %.60q): %d %d, not %d", q.at, q.s, n, e, q.e)
		}
		lookup(t, now, []string{q.at}, q.s, when(q.e == api.OK, 0), q.want)
	}
}

// when is that place, if it holds; else none.
func when(holds bool, place int) int {
	if holds {
		return place
	}
	return -1
}

// lookup holds Lookup, that is not refused, against what is to be answered.
func lookup(t *testing.T, now api.Tree, dirs []string, s string, place int, want api.Item) {
	t.Helper()
	e := api.OK
	if place < 0 {
		e = api.ErrNone
	}
	if gotPlace, got, gotE := walk.Lookup(now, dirs, s); gotPlace != place || got != want || gotE != e {
		t.Errorf("Lookup(%.200q, %.60q): %d %.200v %d, not %d %.200v %d", dirs, s, gotPlace, got, gotE, place, want, e)
	}
}

// hops holds Hops, that is not refused, against what is to be answered.
func hops(t *testing.T, now api.Tree, at, s string, want int) {
	t.Helper()
	if n, e := walk.Hops(now, at, s); n != want || e != api.OK {
		t.Errorf("Hops(%.60q, %.60q): %d %d, not %d", at, s, n, e, want)
	}
}

// Each row of the chapter's Examples.
func TestExamples(t *testing.T) {
	f := file("/a/f", "\x07")
	asked(t, some(),
		ask{"/", "a/l/m", true, f, api.OK},
		ask{"/", "a/l", false, link("/a/l", "../b"), api.OK},
		ask{"/", "a/l", true, dir("/b"), api.OK},
		ask{"/a", "l/", false, dir("/b"), api.OK},
		ask{"/", "a/f/", true, api.Item{}, api.ErrKind},
		ask{"/", "b/o", true, api.Item{}, api.ErrLoop},
		ask{"/", "b/x", true, api.Item{}, api.ErrNone},
		ask{"/a", "../../b/./m", true, f, api.OK},
		ask{"/a/f", "x", true, api.Item{}, api.ErrKind},
		ask{"/", "/", true, dir("/"), api.OK},
	)
	hops(t, some(), "/", "a/l/m", 2)
	lookup(t, some(), []string{"/b", "/a"}, "f", 1, f)
	lookup(t, some(), nil, "f", -1, api.Item{})
}

// P7.1: texts without a name stay, or go up; nothing is above /.
func TestTextsWithoutNames(t *testing.T) {
	now := of(dir("/a"), dir("/a/b"), dir("/a/b/c"))
	for _, last := range []bool{true, false} {
		for _, at := range []string{"/", "/a", "/a/b", "/a/b/c"} {
			for _, s := range []string{"", ".", "./", "./.", ".//.", "././."} {
				asked(t, now, ask{at, s, last, dir(at), api.OK})
			}
			for _, s := range []string{"/", "//", "///", "/.", "/./", "/..", "//..", "/../..", "../../..", "../../../", "../../../..", strings.Repeat("../", 50), "./.././../.././.."} {
				asked(t, now, ask{at, s, last, dir("/"), api.OK})
			}
		}
		asked(t, now,
			ask{"/a", "..", last, dir("/"), api.OK},
			ask{"/a/b", "..", last, dir("/a"), api.OK},
			ask{"/a/b", "../", last, dir("/a"), api.OK},
			ask{"/a/b/c", "..", last, dir("/a/b"), api.OK},
			ask{"/a/b/c", "../..", last, dir("/a"), api.OK},
			ask{"/a/b/c", "..//.././", last, dir("/a"), api.OK},
			ask{"/", "../a", last, dir("/a"), api.OK},
			ask{"/a", "../../../a/b", last, dir("/a/b"), api.OK},
		)
	}
}

// P7.1: names lead from where the way begins, or from /; of what is told the whole item is.
func TestNames(t *testing.T) {
	now := of(dir("/..."), file("/.../.x", "3"), dir("/a"), dir("/a/a"), file("/a/a/a", "1"), dir("/a/b"), dir("/b"), file("/b/f", "2"), dir("/"+strings.Repeat("n", api.MaxName)), file("/x", ""))
	for _, last := range []bool{true, false} {
		asked(t, now,
			ask{"/", "a", last, dir("/a"), api.OK},
			ask{"/", "a/a", last, dir("/a/a"), api.OK},
			ask{"/", "a/a/a", last, file("/a/a/a", "1"), api.OK},
			ask{"/a", "a", last, dir("/a/a"), api.OK},
			ask{"/a", "a/a", last, file("/a/a/a", "1"), api.OK},
			ask{"/a/a", "a", last, file("/a/a/a", "1"), api.OK},
			ask{"/a", "/a", last, dir("/a"), api.OK},
			ask{"/a/a", "/b/f", last, file("/b/f", "2"), api.OK},
			ask{"/a/a", "//b///f", last, file("/b/f", "2"), api.OK},
			ask{"/a/a", "/a/b/../a/./a", last, file("/a/a/a", "1"), api.OK},
			ask{"/a/a", "../../b/f", last, file("/b/f", "2"), api.OK},
			ask{"/", "a/b/", last, dir("/a/b"), api.OK},
			ask{"/", "a/b/.", last, dir("/a/b"), api.OK},
			ask{"/", "a/b/..", last, dir("/a"), api.OK},
			ask{"/", ".../.x", last, file("/.../.x", "3"), api.OK},
			ask{"/...", "../x", last, file("/x", ""), api.OK},
			ask{"/", strings.Repeat("n", api.MaxName), last, dir("/" + strings.Repeat("n", api.MaxName)), api.OK},
		)
	}
}

// P7.1: where nothing stands the way ends, though what comes behind would lead back.
func TestNothing(t *testing.T) {
	now := of(dir("/a"), dir("/a/b"), file("/a/f", ""), dir("/b"), dir("/"+strings.Repeat("n", api.MaxName)))
	bad := []string{"A", "a b", "é", "\xff", "\x00", "a\n", "a:", "~", "*", " ", "\\", "a\x00", strings.Repeat("n", api.MaxName+1), strings.Repeat("n", 1000), "x", "aa", "....", "..a", ".a", "a.", "-"}
	for _, last := range []bool{true, false} {
		for _, name := range bad {
			for _, s := range []string{name, name + "/", name + "/..", name + "/../a", "a/" + name, "a/" + name + "/../b", "/" + name, "./" + name + "/.", "a/../" + name} {
				asked(t, now, ask{"/", s, last, api.Item{}, api.ErrNone}, ask{"/a", s + "/a", last, api.Item{}, api.ErrNone})
			}
		}
		asked(t, now,
			ask{"/", "f", last, api.Item{}, api.ErrNone},
			ask{"/b", "f", last, api.Item{}, api.ErrNone},
			ask{"/b", "a", last, api.Item{}, api.ErrNone},
			ask{"/a", "a", last, api.Item{}, api.ErrNone},
			ask{"/a", "/f", last, api.Item{}, api.ErrNone},
			ask{"/a", "/b/b", last, api.Item{}, api.ErrNone},
			ask{"/", "a/b/c/../f", last, api.Item{}, api.ErrNone},
		)
	}
}

// P7.1: a path of just MaxDepth names may be on the way, one of one more may not.
func TestDepth(t *testing.T) {
	full := of(deepDirs(api.MaxDepth)...)
	ends := of(append(deepDirs(api.MaxDepth-1), file(deep(api.MaxDepth), "1"))...)
	bends := of(append(deepDirs(api.MaxDepth-1), link(deep(api.MaxDepth), "../x"))...)
	down, lowest := strings.TrimPrefix(deep(api.MaxDepth), "/"), dir(deep(api.MaxDepth))
	for _, last := range []bool{true, false} {
		asked(t, full,
			ask{"/", down, last, lowest, api.OK},
			ask{"/", deep(api.MaxDepth), last, lowest, api.OK},
			ask{deep(api.MaxDepth), "", last, lowest, api.OK},
			ask{deep(api.MaxDepth), ".", last, lowest, api.OK},
			ask{deep(api.MaxDepth), "../x", last, lowest, api.OK},
			ask{deep(api.MaxDepth), "..", last, dir(deep(api.MaxDepth - 1)), api.OK},
			ask{deep(api.MaxDepth - 1), "x", last, lowest, api.OK},
			ask{"/", down + "/..", last, dir(deep(api.MaxDepth - 1)), api.OK},
			ask{"/", strings.Repeat("x/../", 60) + "x", last, dir("/x"), api.OK},
			ask{deep(api.MaxDepth), "x", last, api.Item{}, api.ErrNone},
			ask{deep(api.MaxDepth), "x/..", last, api.Item{}, api.ErrNone},
			ask{deep(api.MaxDepth - 1), "x/x", last, api.Item{}, api.ErrNone},
			ask{"/", down + "/x", last, api.Item{}, api.ErrNone},
			ask{"/", down + "/x/../..", last, api.Item{}, api.ErrNone},
			ask{"/x", down, last, api.Item{}, api.ErrNone},
		)
		asked(t, ends,
			ask{"/", down, last, file(deep(api.MaxDepth), "1"), api.OK},
			ask{deep(api.MaxDepth - 1), "x", last, file(deep(api.MaxDepth), "1"), api.OK},
			ask{"/", down + "/x", last, api.Item{}, api.ErrKind},
		)
		asked(t, bends,
			ask{"/", down + "/", last, dir(deep(api.MaxDepth - 1)), api.OK},
			ask{"/", down + "/..", last, dir(deep(api.MaxDepth - 2)), api.OK},
			ask{"/", down + "/x/x/x/", last, dir(deep(api.MaxDepth - 1)), api.OK},
		)
	}
	asked(t, bends, ask{"/", down, true, dir(deep(api.MaxDepth - 1)), api.OK}, ask{"/", down, false, link(deep(api.MaxDepth), "../x"), api.OK})
}

// P7.1: a file is an end; with a part more, whatever it is, there is none.
func TestFiles(t *testing.T) {
	now := of(dir("/a"), file("/a/f", "1"), file("/f", "2"), link("/l", "f"), link("/m", "f/"), link("/n", "f/."), link("/o", "a/f/../f"))
	for _, last := range []bool{true, false} {
		asked(t, now,
			ask{"/", "f", last, file("/f", "2"), api.OK},
			ask{"/a", "f", last, file("/a/f", "1"), api.OK},
			ask{"/a", "./../a//f", last, file("/a/f", "1"), api.OK},
		)
		for _, behind := range []string{"/", "//", "/.", "/..", "/./", "/../f", "/f", "/x", "/A", "/" + strings.Repeat("n", 99)} {
			asked(t, now,
				ask{"/", "f" + behind, last, api.Item{}, api.ErrKind},
				ask{"/", "a/f" + behind, last, api.Item{}, api.ErrKind},
				ask{"/a", "/f" + behind, last, api.Item{}, api.ErrKind},
				ask{"/", "l" + behind, last, api.Item{}, api.ErrKind},
			)
		}
	}
	asked(t, now,
		ask{"/", "l", true, file("/f", "2"), api.OK},
		ask{"/", "m", true, api.Item{}, api.ErrKind},
		ask{"/", "n", true, api.Item{}, api.ErrKind},
		ask{"/", "o", true, api.Item{}, api.ErrKind},
		ask{"/", "m", false, link("/m", "f/"), api.OK},
		ask{"/", "n", false, link("/n", "f/."), api.OK},
	)
}

// P7.1: a link as the last part is followed only if that is said; with a / behind it it is not the last part.
func TestLastLinks(t *testing.T) {
	d, f, n, up := link("/a/d", "e"), link("/a/f", "e/g"), link("/a/n", "nothing"), link("/a/up", "..")
	now := of(dir("/a"), d, dir("/a/e"), file("/a/e/g", "1"), link("/a/e/h", "g"), f, n, up, link("/z", "a/d"))
	asked(t, now,
		ask{"/a", "d", true, dir("/a/e"), api.OK}, ask{"/a", "d", false, d, api.OK},
		ask{"/", "a/d", true, dir("/a/e"), api.OK}, ask{"/", "a/d", false, d, api.OK},
		ask{"/", "/a//./d", true, dir("/a/e"), api.OK}, ask{"/", "/a//./d", false, d, api.OK},
		ask{"/a", "f", true, file("/a/e/g", "1"), api.OK}, ask{"/a", "f", false, f, api.OK},
		ask{"/a", "n", true, api.Item{}, api.ErrNone}, ask{"/a", "n", false, n, api.OK},
		ask{"/a", "up", true, dir("/"), api.OK}, ask{"/a", "up", false, up, api.OK},
		ask{"/", "z", true, dir("/a/e"), api.OK}, ask{"/", "z", false, link("/z", "a/d"), api.OK},
		ask{"/", "a/d/h", true, file("/a/e/g", "1"), api.OK}, ask{"/", "a/d/h", false, link("/a/e/h", "g"), api.OK},
		ask{"/", "z/h", true, file("/a/e/g", "1"), api.OK}, ask{"/", "z/h", false, link("/a/e/h", "g"), api.OK},
	)
	for _, last := range []bool{true, false} {
		for _, behind := range []string{"/", "//", "/.", "/./"} {
			asked(t, now,
				ask{"/a", "d" + behind, last, dir("/a/e"), api.OK},
				ask{"/a", "f" + behind, last, api.Item{}, api.ErrKind},
				ask{"/a", "n" + behind, last, api.Item{}, api.ErrNone},
				ask{"/a", "up" + behind, last, dir("/"), api.OK},
				ask{"/", "z" + behind, last, dir("/a/e"), api.OK},
			)
		}
	}
}

// P7.1: a link in the middle goes on from where it stands, or from /; its parts stand ahead of those still to come.
func TestMiddleLinks(t *testing.T) {
	now := of(
		dir("/a"), link("/a/abs", "/b/c"), link("/a/here", "."), link("/a/many", "../b/./c//d/../d"), link("/a/over", "../../../../b"), link("/a/rel", "../b/c"), link("/a/root", "/"), link("/a/two", "rel/e"),
		dir("/b"), dir("/b/c"), dir("/b/c/d"), file("/b/c/d/f", "1"), file("/b/c/f", "2"), file("/b/f", "3"), link("/b/up", ".."),
		file("/f", "4"),
	)
	for _, last := range []bool{true, false} {
		asked(t, now,
			ask{"/a", "abs/f", last, file("/b/c/f", "2"), api.OK},
			ask{"/", "a/abs/d/f", last, file("/b/c/d/f", "1"), api.OK},
			ask{"/a", "rel/f", last, file("/b/c/f", "2"), api.OK},
			ask{"/b", "/a/rel/d/f", last, file("/b/c/d/f", "1"), api.OK},
			ask{"/a", "many/f", last, file("/b/c/d/f", "1"), api.OK},
			ask{"/a", "over/f", last, file("/b/f", "3"), api.OK},
			ask{"/a", "root/f", last, file("/f", "4"), api.OK},
			ask{"/a", "root/a/over/c/f", last, file("/b/c/f", "2"), api.OK},
			ask{"/a", "here/here/./here/rel/f", last, file("/b/c/f", "2"), api.OK},
			// What is behind a link is said of where it leads to, not of where it stands.
			ask{"/a", "rel/..", last, dir("/b"), api.OK},
			ask{"/a", "abs/../f", last, file("/b/f", "3"), api.OK},
			ask{"/a", "rel/../../f", last, file("/f", "4"), api.OK},
			ask{"/a", "abs/../up/a/rel/d/../f", last, file("/b/c/f", "2"), api.OK},
			ask{"/a", "rel/rel", last, api.Item{}, api.ErrNone},
			ask{"/a", "two/..", last, api.Item{}, api.ErrNone},
			ask{"/a", "abs/A", last, api.Item{}, api.ErrNone},
		)
	}
	hops(t, now, "/a", "rel/f", 1)
	hops(t, now, "/a", "here/here/./here/rel/f", 4)
	hops(t, now, "/a", "abs/../up/a/rel/d/../f", 3)
}

// P7.1, P7.2: just MaxHops links are gone over, one more is not; one that is not followed is not gone over.
func TestChains(t *testing.T) {
	for _, to := range []string{"../d", "/d", "..//./d/../d"} {
		for _, n := range []int{1, 2, 3, api.MaxHops - 1, api.MaxHops} {
			now := chain(n, to)
			asked(t, now, ask{"/", chained(1), true, dir("/d"), api.OK}, ask{"/c", "101/", false, dir("/d"), api.OK}, ask{"/c", "101/f", false, file("/d/f", "9"), api.OK})
			hops(t, now, "/", chained(1), n)
			hops(t, now, "/d", "../c/101/f", n)
			hops(t, now, "/c", strconv.Itoa(100+n), 1)
		}
		for _, n := range []int{api.MaxHops + 1, api.MaxHops + 2, 3 * api.MaxHops} {
			now, first := chain(n, to), item(chain(n, to), chained(1))
			asked(t, now,
				ask{"/", chained(1), true, api.Item{}, api.ErrLoop},
				ask{"/", chained(1) + "/", false, api.Item{}, api.ErrLoop},
				ask{"/", chained(1) + "/f", true, api.Item{}, api.ErrLoop},
				ask{"/", chained(1) + "/A", true, api.Item{}, api.ErrLoop},
				ask{"/", chained(1), false, first, api.OK},
				ask{"/", chained(n - api.MaxHops + 1), true, dir("/d"), api.OK},
				ask{"/", chained(n - api.MaxHops), true, api.Item{}, api.ErrLoop},
			)
			hops(t, now, "/", chained(n-api.MaxHops+1), api.MaxHops)
		}
	}
}

// item is what stands at p.
func item(now api.Tree, p string) api.Item {
	for _, x := range now.Items {
		if x.Path == p {
			return x
		}
	}
	return api.Item{}
}

// P7.1, P7.2: links are counted on the whole way, one as often as it is gone over, wherever they come from.
func TestHopsOnTheWay(t *testing.T) {
	now := of(dir("/a"), link("/a/b", "../a"), file("/a/f", "1"), link("/h", "."), link("/i", "a/b/b/"), link("/j", "i/b/f"), link("/r", "/"))
	for _, name := range []string{"h/", "r/", "a/b/../", "a/../r/"} {
		for n := range api.MaxHops + 1 {
			hops(t, now, "/", strings.Repeat(name, n)+"a/f", n)
		}
		most := strings.Repeat(name, api.MaxHops)
		asked(t, now,
			ask{"/", most, true, dir("/"), api.OK},
			ask{"/", most + "h", false, link("/h", "."), api.OK},
			ask{"/", most + "h", true, api.Item{}, api.ErrLoop},
			ask{"/", most + "h/", false, api.Item{}, api.ErrLoop},
			ask{"/", most + "h/x", false, api.Item{}, api.ErrLoop},
			ask{"/", most + "x", true, api.Item{}, api.ErrNone},
			ask{"/", most + "x/h", true, api.Item{}, api.ErrNone},
			ask{"/", most + "a/f/h", true, api.Item{}, api.ErrKind},
		)
	}
	for s, want := range map[string]int{"": 0, "/": 0, "a": 0, "a/f": 0, "a/../a/.": 0, "h": 1, "a/b": 1, "a/b/b": 2, "i": 3, "j": 5, "i/../j": 8, "h/r/i/b/b/f": 7} {
		hops(t, now, "/", s, want)
	}
	// Each way counts anew.
	hops(t, now, "/", strings.Repeat("h/", api.MaxHops), api.MaxHops)
	hops(t, now, "/", strings.Repeat("h/", api.MaxHops), api.MaxHops)
}

// P7.1, P7.2: links that lead to themselves, to each other, or ever farther.
func TestLoops(t *testing.T) {
	now := of(
		link("/a", "b"), link("/b", "a"), dir("/d"), link("/d/up", "../d/up"), link("/grow", "grow/x"), link("/me", "me"), link("/more", "/more/.."), link("/one", "/two"),
		link("/root", "/root"), link("/self", "./self/"), link("/three", "one"), link("/two", "/three/"), link("/wide", strings.Repeat("wide/", api.MaxLong/5)),
	)
	for _, name := range []string{"a", "b", "d/up", "grow", "me", "more", "one", "root", "self", "three", "two", "wide"} {
		for _, last := range []bool{true, false} {
			asked(t, now,
				ask{"/", name + "/", last, api.Item{}, api.ErrLoop},
				ask{"/", name + "/..", last, api.Item{}, api.ErrLoop},
				ask{"/d", "../" + name + "/x/y", last, api.Item{}, api.ErrLoop},
				ask{"/d", "/" + name + "/A", last, api.Item{}, api.ErrLoop},
			)
		}
		asked(t, now, ask{"/", name, true, api.Item{}, api.ErrLoop}, ask{"/", name, false, item(now, "/"+name), api.OK}, ask{"/d", "../" + name, false, item(now, "/"+name), api.OK})
	}
}

// P7.1, P7.2: of a way the error that comes first on it is answered.
func TestFirstOnTheWay(t *testing.T) {
	now := of(dir("/d"), link("/d/none", "../x/f"), file("/f", ""), link("/loop", "loop"), link("/low", "d/none/f"), link("/none", "x"))
	asked(t, now,
		ask{"/", "x/f/x", true, api.Item{}, api.ErrNone},
		ask{"/", "x/loop", true, api.Item{}, api.ErrNone},
		ask{"/", "f/loop", true, api.Item{}, api.ErrKind},
		ask{"/", "f/x", true, api.Item{}, api.ErrKind},
		ask{"/", "loop/x", true, api.Item{}, api.ErrLoop},
		ask{"/", "loop/f/", true, api.Item{}, api.ErrLoop},
		ask{"/", "none/../f/", true, api.Item{}, api.ErrNone},
		ask{"/", "none/../loop", true, api.Item{}, api.ErrNone},
		ask{"/", "low/loop", true, api.Item{}, api.ErrNone},
		ask{"/d", "none", true, api.Item{}, api.ErrNone},
		ask{"/d", "A/../../f/", true, api.Item{}, api.ErrNone},
	)
}

// filled is a text of just so many bytes: a piece over and over, then slashes, and what stands at its end.
func filled(many int, piece, end string) string {
	times := (many - len(end)) / len(piece)
	return strings.Repeat(piece, times) + strings.Repeat("/", many-len(end)-times*len(piece)) + end
}

// P7.1 to P7.3: a text of just MaxAsk bytes is asked for, one of one more is not.
func TestMaxAsk(t *testing.T) {
	now := of(dir("/a"), dir("/a/b"), file("/f", "1"), link("/l", "."))
	for _, piece := range []string{"/", "../", "./", "a/../", "a/b/../../"} {
		most := filled(api.MaxAsk, piece, "f")
		for _, last := range []bool{true, false} {
			asked(t, now, ask{"/", most, last, file("/f", "1"), api.OK}, ask{"/", filled(api.MaxAsk-1, piece, "f"), last, file("/f", "1"), api.OK}, ask{"/", filled(api.MaxAsk, piece, "l/"), last, dir("/"), api.OK})
		}
		hops(t, now, "/", most, 0)
		hops(t, now, "/", filled(api.MaxAsk, piece, "l"), 1)
		for _, s := range []string{filled(api.MaxAsk+1, piece, "f"), most + "/", "/" + most, most + most, strings.Repeat(piece, api.MaxAsk)} {
			if len(s) > api.MaxAsk {
				refused(t, now, "/", s, api.ErrLong)
			}
		}
	}
	asked(t, now, ask{"/", strings.Repeat("n", api.MaxAsk), true, api.Item{}, api.ErrNone}, ask{"/", strings.Repeat("\x00", api.MaxAsk), true, api.Item{}, api.ErrNone})
	refused(t, now, "/", strings.Repeat("n", api.MaxAsk+1), api.ErrLong)
	refused(t, now, "/", strings.Repeat("é", api.MaxAsk/2)+"e", api.ErrLong)
	refused(t, now, "/", strings.Repeat("n", 1<<20), api.ErrLong)
}

// P7.1 to P7.3: what links say does not count for how long the text is.
func TestLongLinks(t *testing.T) {
	long := strings.Repeat("./", api.MaxLong/2-1) + "d/"
	now := of(dir("/d"), link("/d/up", "/"+strings.Repeat("d/../", (api.MaxLong-1)/5)), file("/f", "1"), link("/l", long), link("/m", strings.Repeat("/", api.MaxLong-1)+"l"))
	asked(t, now,
		ask{"/", "l", true, dir("/d"), api.OK},
		ask{"/d", "../m/up/l/up/m", true, dir("/d"), api.OK},
		ask{"/", "m" + strings.Repeat("/", api.MaxAsk-6) + "up/f", true, file("/f", "1"), api.OK},
	)
	hops(t, now, "/d", "../m/up/l/up/m", 7)
}

// refused holds all three calls against an error that goes ahead of all else.
func refused(t *testing.T, now api.Tree, at, s string, want api.Errno) {
	t.Helper()
	for _, last := range []bool{true, false} {
		if got, e := walk.Resolve(now, at, s, last); e != want || got != (api.Item{}) {
			t.Errorf("Resolve(%.60q, %.60q, %v): %.200v %d, not %d", at, s, last, got, e, want)
		}
	}
	if n, e := walk.Hops(now, at, s); e != want || n != 0 {
		t.Errorf("Hops(%.60q, %.60q): %d %d, not %d", at, s, n, e, want)
	}
	for _, dirs := range [][]string{nil, {at}, {"/", at}, {"", at, "/"}} {
		if place, got, e := walk.Lookup(now, dirs, s); e != want || place != 0 || got != (api.Item{}) {
			t.Errorf("Lookup(%.60q, %.60q): %d %.200v %d, not %d", dirs, s, place, got, e, want)
		}
	}
}

// badPaths are no paths.
func badPaths() []string {
	return []string{
		"", "a", "a/b", "//", "/a/", "/a//b", "//a", "/A", "/.", "/..", "/a/..", "/a/.", "/a b", "/a\x00", "/\xff", ".", "..", "./a", "/é", "/d/../a", "/d/", "d", "/l/",
		"/" + strings.Repeat("n", api.MaxName+1), deep(api.MaxDepth + 1), strings.Repeat("/", 1<<12), strings.Repeat("/a", 1<<12),
	}
}

// P7.1, P7.2: a way begins at a directory; links are not followed to it; what the text says does not count then.
func TestAt(t *testing.T) {
	now := of(dir("/a"), file("/a/f", "1"), link("/a/l", "../d"), dir("/d"), link("/d/me", "me"), file("/f", "2"), link("/l", "d"), link("/n", "nothing"), link("/r", "/"))
	for _, last := range []bool{true, false} {
		for _, s := range []string{"", ".", "..", "/", "/f", "/a/f", "/l", "f", "x", "A", "../a", "/d/me", strings.Repeat("/", api.MaxAsk)} {
			for _, at := range badPaths() {
				asked(t, now, ask{at, s, last, api.Item{}, api.ErrPath})
			}
			for _, at := range []string{"/b", "/a/b", "/a/f/x", "/a/b/c", "/f/f", "/l/me", "/l/x", "/r/a", "/n/n", "/...", deep(api.MaxDepth), "/" + strings.Repeat("n", api.MaxName)} {
				asked(t, now, ask{at, s, last, api.Item{}, api.ErrNone})
			}
			for _, at := range []string{"/a/f", "/a/l", "/f", "/l", "/n", "/r", "/d/me"} {
				asked(t, now, ask{at, s, last, api.Item{}, api.ErrKind})
			}
		}
		asked(t, now, ask{"/", "l/", last, dir("/d"), api.OK}, ask{"/a", "l/../f", last, file("/f", "2"), api.OK}, ask{"/d", "/a/f", last, file("/a/f", "1"), api.OK})
	}
}

// badTrees are none that may be, but / and what leads to /d/f could be found in most of them.
func badTrees() []api.Tree {
	d, f := dir("/d"), file("/d/f", "1")
	many := []api.Item{d, f}
	for k := range api.MaxItems - 1 {
		many = append(many, dir("/m"+strconv.Itoa(10000+k)))
	}
	l := []api.Tree{
		of(f, d), of(d, f, f), of(d, d, f), of(f), of(d, f, dir("/a")), of(dir("/a/b"), d, f), of(file("/a", ""), file("/a/b", ""), d, f), of(link("/a", "d"), file("/a/b", ""), d, f),
		of(d, f, dir("/d/f/g")), of(d, link("/d/f", "x"), file("/d/f/g", "")), of(d, f, link("/l", "")), of(d, f, link("/l", strings.Repeat("x", api.MaxLong+1))), of(d, f, file("/l", strings.Repeat("x", api.MaxFile+1))),
		of(d, f, api.Item{Path: "/e", Kind: api.KDir, Data: "x"}), of(d, f, api.Item{Path: "/e"}), of(d, f, api.Item{Path: "/e", Kind: 4}), of(d, f, api.Item{Path: "/e", Kind: -1}), of(d, f, api.Item{}),
		of(dir("/"), d, f), of(file("/", "1"), d, f), of(link("/", "d"), d, f), of(many...), of(append(deepDirs(api.MaxDepth+1), d, f)...),
	}
	for _, p := range badPaths() {
		l = append(l, of(dir(p), d, f), of(d, f, file(p, "")))
	}
	return l
}

// P7.1 to P7.3: of a tree that may not be nothing is told, whatever else is asked.
func TestBadTrees(t *testing.T) {
	for _, now := range badTrees() {
		for _, at := range []string{"/", "/d", "/d/f", "/x", "x", ""} {
			for _, s := range []string{"", "/", "d/f", "f", "/d/f", "x", strings.Repeat("/", api.MaxAsk), strings.Repeat("/", api.MaxAsk+1), strings.Repeat("n", 1<<12)} {
				refused(t, now, at, s, api.ErrTree)
			}
		}
	}
}

// P7.1, P7.2, R2: a text that is too long goes ahead of what is wrong with at, that ahead of what comes on the way.
func TestFirstOfErrors(t *testing.T) {
	now := of(dir("/d"), file("/f", ""), link("/l", "l"))
	long := strings.Repeat("/", api.MaxAsk+1)
	for _, at := range []string{"/", "/d", "/f", "/l", "/x", "x", "", "/d/"} {
		refused(t, now, at, long, api.ErrLong)
		refused(t, now, at, long+"x", api.ErrLong)
	}
	for _, s := range []string{"/l/", "/f/", "/x", "l/x", "f/x", "x", "/"} {
		asked(t, now, ask{"x", s, true, api.Item{}, api.ErrPath}, ask{"/x", s, true, api.Item{}, api.ErrNone}, ask{"/f", s, true, api.Item{}, api.ErrKind}, ask{"/l", s, true, api.Item{}, api.ErrKind})
	}
	// In an empty tree there is / alone.
	for _, empty := range []api.Tree{{}, of(), {Items: []api.Item{}}} {
		asked(t, empty, ask{"/", "", true, dir("/"), api.OK}, ask{"/", "x", true, api.Item{}, api.ErrNone}, ask{"/x", "/", true, api.Item{}, api.ErrNone}, ask{"", "/", false, api.Item{}, api.ErrPath})
		refused(t, empty, "/", long, api.ErrLong)
	}
}

// P7.3: the first of the directories that has it is told, by its place.
func TestLookup(t *testing.T) {
	now := of(
		dir("/a"), file("/a/f", "1"), dir("/a/s"), file("/a/s/t", "2"), dir("/b"), link("/b/f", "../c/f"), link("/b/g", "g"), link("/b/s", "/a/s"), dir("/c"), file("/c/f", "3"), file("/c/g", "4"), file("/c/s", "5"),
		dir("/e"), link("/e/f", "nothing"), file("/x", "6"), link("/y", "a"),
	)
	none := []string{"", "a", "/a/", "/q", "/a/q", "/x", "/x/q", "/y", "/b/s", "/A", "/e", "//", deep(api.MaxDepth + 1)}
	af, cf, cg, st := file("/a/f", "1"), file("/c/f", "3"), file("/c/g", "4"), file("/a/s/t", "2")
	for _, q := range []struct {
		dirs  []string
		s     string
		place int
		want  api.Item
	}{
		{[]string{"/a", "/b", "/c"}, "f", 0, af},
		{[]string{"/b", "/a", "/c"}, "f", 0, cf},
		{[]string{"/c", "/b", "/a"}, "f", 0, cf},
		{[]string{"/e", "/a", "/c"}, "f", 1, af},
		{[]string{"/a", "/b", "/c"}, "g", 2, cg},
		{[]string{"/b", "/c", "/a"}, "g", 1, cg},
		{[]string{"/c", "/b", "/a"}, "g", 0, cg},
		{[]string{"/c", "/b", "/a"}, "s/t", 1, st},
		{[]string{"/c", "/b", "/a"}, "s", 0, file("/c/s", "5")},
		{[]string{"/c", "/b", "/a"}, "s/", 1, dir("/a/s")},
		{[]string{"/c", "/c", "/a", "/b"}, "s/t", 2, st},
		{[]string{"/a", "/a", "/a"}, "f", 0, af},
		{[]string{"/b", "/b", "/c", "/c"}, "g", 2, cg},
		{[]string{"/e", "/e", "/b"}, "f", 2, cf},
		{[]string{"/a", "/b", "/c"}, "h", -1, api.Item{}},
		{[]string{"/a", "/b", "/e"}, "g", -1, api.Item{}},
		{[]string{"/e", "/b"}, "../x", 0, file("/x", "6")},
		{[]string{"/", "/b"}, "f", 1, cf},
		{[]string{"/a", "/b"}, "", 0, dir("/a")},
		{[]string{"/q", "/b"}, "/", 1, dir("/")},
		{[]string{"/x", "/y", "", "/b"}, "/a/f", 3, af},
		{[]string{"/"}, "y/f", 0, af},
	} {
		lookup(t, now, q.dirs, q.s, q.place, q.want)
	}
	for _, s := range []string{"f", "/a/f", "../a/f", "//a//f", "./f"} {
		if s == "f" || s == "./f" {
			lookup(t, now, none, s, -1, api.Item{})
			lookup(t, now, append(none, "/a"), s, len(none), af)
		}
		for place, d := range none {
			if d == "/e" {
				continue
			}
			lookup(t, now, []string{d}, s, -1, api.Item{})
			lookup(t, now, append(append([]string{}, none[:place]...), d, "/a"), "f", place+1, af)
		}
	}
	for _, dirs := range [][]string{nil, {}} {
		for _, s := range []string{"", "/", "f", "/a/f", strings.Repeat("/", api.MaxAsk)} {
			lookup(t, now, dirs, s, -1, api.Item{})
		}
	}
}

// P7.3: the last part is followed, to whatever that says, in each of the directories.
func TestLookupFollows(t *testing.T) {
	now := of(dir("/a"), link("/a/l", "/nothing"), dir("/b"), link("/b/l", "l"), dir("/c"), link("/c/l", "../d"), dir("/d"), link("/d/l", "../f/x"), file("/f", "1"))
	for _, s := range []string{"l", "./l", "l/", "l/."} {
		lookup(t, now, []string{"/a", "/b", "/d", "/c"}, s, 3, dir("/d"))
		lookup(t, now, []string{"/a", "/b", "/d"}, s, -1, api.Item{})
	}
	// Each way goes over as many links as there may be, whatever those ahead have gone over.
	hopping := chain(api.MaxHops, "../d")
	lookup(t, hopping, []string{"/d", "/c", "/c"}, "101/f", 1, file("/d/f", "9"))
	lookup(t, chain(api.MaxHops+1, "../d"), []string{"/c", "/d", "/"}, "101", -1, api.Item{})
	lookup(t, chain(api.MaxHops+1, "../d"), []string{"/c", "/d", "/"}, "c/102", 2, dir("/d"))
}
