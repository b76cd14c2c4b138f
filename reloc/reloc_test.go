package reloc_test

import (
	"fmt"
	"slices"
	"strconv"
	"strings"
	"testing"

	"puncheon/api"
	"puncheon/reloc"
)

// z is what s says as the chapter writes it: letters, and 0 for the byte 0.
func z(s string) string {
	return strings.ReplaceAll(s, "0", "\x00")
}

// said is s cut short.
func said(s string) string {
	return strconv.QuoteToASCII(s[:min(len(s), 300)])
}

// long is a text of n bytes.
func long(n int) string {
	return strings.Repeat("x", n)
}

// noughts are n bytes that are 0.
func noughts(n int) string {
	return strings.Repeat("\x00", n)
}

// goodPrefixes are prefixes.
func goodPrefixes() []string {
	l := []string{"/o", "/opt", "aa", " ", "\n", "//", "@HOME@", "é", strings.Repeat("é", 30), strings.Repeat("\xff", 60), "a b", "..", strings.Repeat("/o", 30)}
	for n := 1; n <= api.MaxPrefix; n++ {
		l = append(l, long(n))
	}
	for n := 1; n < 256; n++ {
		c := string([]byte{byte(n)})
		l = append(l, c, c+"a", "a"+c)
	}
	return l
}

// badPrefixes are none.
func badPrefixes() []string {
	l := []string{"", strings.Repeat("é", 31), strings.Repeat("\xff", 61), noughts(2), noughts(60), noughts(61), "/o\x00", "\x00/o", "/\x00o", z("@HOME@0")}
	for _, n := range []int{61, 62, 64, 100, 255, 256, 257, 300, 316, 1 << 16, 1<<16 + 1} {
		l = append(l, long(n))
	}
	for n := range api.MaxPrefix {
		l = append(l, long(n)+"\x00"+long(api.MaxPrefix-1-n), long(n)+"\x00")
	}
	return l
}

// P14.1: Check, of prefixes of each byte and of all lengths, and of what is none.
func TestCheck(t *testing.T) {
	for _, p := range goodPrefixes() {
		if e := reloc.Check(p); e != api.OK {
			t.Errorf("Check(%s): %d", said(p), e)
		}
	}
	for _, p := range badPrefixes() {
		if e := reloc.Check(p); e != api.ErrReloc {
			t.Errorf("Check(%s): %d", said(p), e)
		}
	}
	if api.MaxPrefix != 60 {
		t.Error(api.MaxPrefix)
	}
}

// P14.1: Binary, wherever the 0 stands.
func TestBinary(t *testing.T) {
	for _, s := range append(goodPrefixes(), "", "0", "000", "\\0", "%00", "\u0100", "\U00010000", long(1<<16)) {
		if reloc.Binary(s) {
			t.Errorf("Binary(%s)", said(s))
		}
	}
	for _, s := range []string{"0", "00", "0a", "a0", "a0b", "a00b", "0a0b0", "é0", "0\xff"} {
		if !reloc.Binary(z(s)) {
			t.Errorf("not Binary(%s)", said(z(s)))
		}
	}
	for n := range 300 {
		if s := long(n) + "\x00" + long(299-n); !reloc.Binary(s) {
			t.Errorf("not Binary with a 0 at %d", n)
		}
	}
}

// P14.2: Places, in texts and in binary bytes.
func TestPlaces(t *testing.T) {
	for _, c := range []struct {
		data, prefix string
		want         []int
	}{
		{"", "a", nil}, {"a", "a", []int{0}}, {"b", "a", nil}, {"aaa", "a", []int{0, 1, 2}},
		// Shorter than the prefix; the prefix itself; of one byte more.
		{"/op", "/opt", nil}, {"/opt", "/opt", []int{0}}, {"x/opt", "/opt", []int{1}}, {"/optx", "/opt", []int{0}}, {"", long(60), nil}, {long(59), long(60), nil}, {long(60), long(60), []int{0}}, {long(119), long(60), []int{0}}, {long(120), long(60), []int{0, 60}}, {"y" + long(60) + "y", long(60), []int{1}},
		// It begins, and ends, with a place.
		{"/o/x/o", "/o", []int{0, 4}}, {"/o/o/o", "/o", []int{0, 2, 4}}, {"x/o", "/o", []int{1}}, {"/o/", "/o", []int{0}},
		// Places that could go over one another.
		{"aa", "aa", []int{0}}, {"aaa", "aa", []int{0}}, {"aaaa", "aa", []int{0, 2}}, {"aaaaa", "aa", []int{0, 2}}, {"baaaa", "aa", []int{1, 3}}, {"aabaa", "aa", []int{0, 3}}, {"abaab", "aa", []int{2}}, {"ababa", "aba", []int{0}}, {"abababa", "aba", []int{0, 4}}, {"abaaba", "aba", []int{0, 3}}, {"ababab", "abab", []int{0}}, {"aaaaaaa", "aaa", []int{0, 3}},
		// What begins as a place, and goes on as another one.
		{"aab", "ab", []int{1}}, {"aaab", "aab", []int{1}}, {"ababc", "abc", []int{2}}, {"abacabacad", "abacad", []int{4}}, {"//o", "/o", []int{1}}, {"/o/op/opt", "/opt", []int{5}}, {"aabaabaaab", "aabaaab", []int{3}},
		// Binary bytes: no place goes over a 0.
		{z("0"), "a", nil}, {z("000"), "a", nil}, {z("a0a"), "aa", nil}, {z("/o0pt"), "/opt", nil}, {z("/o00pt/opt0"), "/opt", []int{6}}, {z("0/o"), "/o", []int{1}}, {z("/o0"), "/o", []int{0}}, {z("/o0/o"), "/o", []int{0, 3}}, {z("aaa0aaa"), "aa", []int{0, 4}}, {z("aaa0aaaa00a0aa"), "aa", []int{0, 4, 6, 12}},
		// Any bytes but 0.
		{"\xff\xff\xff", "\xff", []int{0, 1, 2}}, {"éé", "é", []int{0, 2}}, {"é", "\xa9", []int{1}}, {"a\nb", "\n", []int{1}}, {"aA", "A", []int{1}},
		// The number 0 is not the byte.
		{"x00x", "0", []int{1, 2}},
	} {
		if l := reloc.Places(c.data, c.prefix); !slices.Equal(l, c.want) {
			t.Errorf("Places(%s, %s): %v, not %v", said(c.data), said(c.prefix), l, c.want)
		}
	}
}

// P14.2: of what is no prefix there are no places, wherever it stands.
func TestPlacesOfNone(t *testing.T) {
	for _, p := range badPrefixes() {
		for _, data := range []string{"", p, p + p, "x" + p + "x", long(1000), noughts(100)} {
			if l := reloc.Places(data, p); len(l) != 0 {
				t.Errorf("Places(%s, %s): %v", said(data), said(p), l)
			}
		}
	}
}

// moves holds Move against what it has to answer.
func moves(t *testing.T, data, from, to, want string, e api.Errno, at ...int) {
	t.Helper()
	got, put, is := reloc.Move(data, from, to)
	if got != want || !slices.Equal(put, at) || is != e {
		t.Errorf("Move(%s, %s, %s): %s %v %d, not %s %v %d", said(data), said(from), said(to), said(got), put, is, said(want), at, e)
	}
}

// P14.3: Move, of texts.
func TestMoveText(t *testing.T) {
	moves(t, "", "/o", "/opt", "", api.OK)
	moves(t, "x", "/o", "/opt", "x", api.OK)
	moves(t, "/op", "/opt", "/o", "/op", api.OK)
	moves(t, "/o", "/o", "/opt", "/opt", api.OK, 0)
	moves(t, "/opt", "/opt", "/o", "/o", api.OK, 0)
	// They grow, shrink, and stay as long as they are.
	moves(t, "#!/o/bin/sh -e /o/x\n", "/o", "/opt", "#!/opt/bin/sh -e /opt/x\n", api.OK, 2, 17)
	moves(t, "#!/opt/bin/sh -e /opt/x\n", "/opt", "/o", "#!/o/bin/sh -e /o/x\n", api.OK, 2, 15)
	moves(t, "/a:/a:b/a", "/a", "/b", "/b:/b:b/b", api.OK, 0, 3, 7)
	moves(t, "/o/o/o", "/o", "/opt", "/opt/opt/opt", api.OK, 0, 4, 8)
	moves(t, "/opt/opt/opt", "/opt", "/o", "/o/o/o", api.OK, 0, 2, 4)
	moves(t, "aaa", "a", "bcd", "bcdbcdbcd", api.OK, 0, 3, 6)
	moves(t, "xayaz", "a", long(60), "x"+long(60)+"y"+long(60)+"z", api.OK, 1, 62)
	moves(t, "x"+long(60)+"y", long(60), "b", "b"+"xy", api.OK, 0)
	moves(t, "ay", long(60), "b", "ay", api.OK)
	// Places that could go over one another.
	moves(t, "aaaaa", "aa", "b", "bba", api.OK, 0, 1)
	moves(t, "aaaaa", "aa", "abc", "abcabca", api.OK, 0, 3)
	moves(t, "ababa", "aba", "ab", "abba", api.OK, 0)
	// What is put is not looked at again, nor what it makes with its neighbours.
	moves(t, "aab", "ab", "b", "ab", api.OK, 1)
	moves(t, "/o", "/o", "/o/o", "/o/o", api.OK, 0)
	moves(t, "a", "a", "aaa", "aaa", api.OK, 0)
	moves(t, "abab", "ba", "ab", "aabb", api.OK, 1)
	// From a prefix to itself.
	moves(t, "", "aa", "aa", "", api.OK)
	moves(t, "aaaaa", "aa", "aa", "aaaaa", api.OK, 0, 2)
	moves(t, "see /o/bin", "/o", "/o", "see /o/bin", api.OK, 4)
	// Where it has no place, though the second one has.
	moves(t, "see /opt", "/x", "/opt", "see /opt", api.OK)
	moves(t, "bbb", "a", "b", "bbb", api.OK)
	// Any bytes.
	moves(t, "\xff\xfeé", "\xfe", "\x01\x02", "\xff\x01\x02é", api.OK, 1)
	moves(t, "é", "\xa9", "\xaa", "ê", api.OK, 1)
	moves(t, "x0y", "0", "00", "x00y", api.OK, 1)
}

// P14.3: Move, of binary bytes.
func TestMoveBinary(t *testing.T) {
	for _, c := range []struct {
		data, from, to, want string
		e                    api.Errno
		at                   []int
	}{
		// Of noughts alone.
		{"0", "/o", "/opt", "0", api.OK, nil}, {"000", "/o", "/opt", "000", api.OK, nil}, {"000", "/opt", "/o", "000", api.OK, nil},
		// Of one run.
		{"/o000", "/o", "/opt", "/opt0", api.OK, []int{0}}, {"/opt0", "/opt", "/o", "/o000", api.OK, []int{0}}, {"x/oy000", "/o", "/opt", "x/opty0", api.OK, []int{1}}, {"/a0", "/a", "/b", "/b0", api.OK, []int{0}},
		// With noughts ahead of the first run: they stay, and none of them goes.
		{"0/o00", "/o", "/opt", "0/opt", api.OK, []int{1}}, {"00/o000", "/o", "/opt", "00/opt0", api.OK, []int{2}}, {"00/opt0", "/opt", "/o", "00/o000", api.OK, []int{2}}, {"000/o", "/o", "/op", "", api.ErrLong, nil}, {"0000/o0", "/o", "/opt", "", api.ErrLong, nil}, {"000/o0x", "/o", "/op", "", api.ErrLong, nil},
		// With none behind the last run.
		{"0/opt", "/opt", "/o", "0/o00", api.OK, []int{1}}, {"x0/opt", "/opt", "/o", "x0/o00", api.OK, []int{2}}, {"x0/o", "/o", "/op", "", api.ErrLong, nil}, {"x00/o", "/o", "/op", "", api.ErrLong, nil}, {"x0/a", "/a", "/b", "x0/b", api.OK, []int{2}},
		// Between runs: it grows by as many noughts as stand behind it, by one fewer, and by one more.
		{"/o00x", "/o", "/opt", "", api.ErrLong, nil}, {"/o000x", "/o", "/opt", "/opt0x", api.OK, []int{0}}, {"/o0x", "/o", "/opt", "", api.ErrLong, nil}, {"/o0x", "/o", "/op", "", api.ErrLong, nil}, {"/o00x", "/o", "/op", "/op0x", api.OK, []int{0}}, {"/o0000x", "/o", "/opt", "/opt00x", api.OK, []int{0}}, {"/o00x0000", "/o", "/opt", "", api.ErrLong, nil},
		// At the end.
		{"x0/o00", "/o", "/opt", "x0/opt", api.OK, []int{2}}, {"x0/o000", "/o", "/opt", "x0/opt0", api.OK, []int{2}}, {"x0/o0", "/o", "/opt", "", api.ErrLong, nil}, {"x0/o0", "/o", "/op", "x0/op", api.OK, []int{2}},
		// No 0 would be left, or one.
		{"/o0", "/o", "/op", "", api.ErrLong, nil}, {"/o00", "/o", "/opt", "", api.ErrLong, nil}, {"/o00", "/o", "/op", "/op0", api.OK, []int{0}}, {"/o0", "/o", "/opt", "", api.ErrLong, nil}, {"aa00", "a", "bc", "", api.ErrLong, nil}, {"aa000", "a", "bc", "bcbc0", api.OK, []int{0, 2}}, {"0a0", "a", "bc", "0bc", api.OK, []int{1}},
		// Several runs, with one nought between two, and more.
		{"/opt/x0/opt/y00/opt0z", "/opt", "/o", "/o/x000/o/y0000/o000z", api.OK, []int{0, 7, 15}}, {"/o/x000/o/y0000/o000z", "/o", "/opt", "/opt/x0/opt/y00/opt0z", api.OK, []int{0, 7, 15}}, {"x0y0/o000z", "/o", "/opt", "x0y0/opt0z", api.OK, []int{4}},
		// The noughts behind one run are not another one's.
		{"x0000/o0y0000", "/o", "/opt", "", api.ErrLong, nil}, {"/o000/o0x", "/o", "/op", "", api.ErrLong, nil}, {"/o0/o0000", "/o", "/op", "", api.ErrLong, nil}, {"/o00/o0", "/o", "/op", "/op0/op", api.OK, []int{0, 4}},
		// Several places in a run.
		{"/o:/o00000y", "/o", "/opt", "/opt:/opt0y", api.OK, []int{0, 5}}, {"/o:/o0000y", "/o", "/opt", "", api.ErrLong, nil}, {"0/o:/o0000", "/o", "/opt", "0/opt:/opt", api.OK, []int{1, 6}}, {"0/o:/o000", "/o", "/opt", "", api.ErrLong, nil}, {"/opt:/opt0y", "/opt", "/o", "/o:/o00000y", api.OK, []int{0, 3}}, {"aaaaa0a0aaa", "aa", "b", "bba000a0ba0", api.OK, []int{0, 1, 8}}, {"aaaa000aa0000", "aa", "abc", "abcabc0abc000", api.OK, []int{0, 3, 7}},
		// No place goes over a nought.
		{"/o0pt00", "/opt", "/o", "/o0pt00", api.OK, nil}, {"a0a", "aa", "b", "a0a", api.OK, nil}, {"aaa0a0", "aa", "b", "ba00a0", api.OK, []int{0}},
		// It shrinks, to one byte, the fewest that there are.
		{"/opt0x", "/opt", "/", "/0000x", api.OK, []int{0}}, {"0/opt", "/opt", "o", "0o000", api.OK, []int{1}},
		// From a prefix to itself; where it has no place: also where no nought could go.
		{"/o0x0", "/o", "/o", "/o0x0", api.OK, []int{0}}, {"0/o", "/o", "/o", "0/o", api.OK, []int{1}}, {"0", "/o", "/o", "0", api.OK, nil}, {"x0y", "/o", "/opt", "x0y", api.OK, nil}, {"x00", "/opt", "/o", "x00", api.OK, nil}, {"0/opt0", "/x", "/opt", "0/opt0", api.OK, nil},
		// Any bytes.
		{"\xff0\xfe00", "\xfe", "\xfe\xff", "\xff0\xfe\xff0", api.OK, []int{2}},
	} {
		moves(t, z(c.data), c.from, c.to, z(c.want), c.e, c.at...)
	}
}

// P14.3: Move, between prefixes of MaxPrefix bytes and of one.
func TestMoveLongest(t *testing.T) {
	great := strings.Repeat("g", api.MaxPrefix)
	moves(t, "x"+great+"x", great, "/", "x/x", api.OK, 1)
	moves(t, "x/x", "/", great, "x"+great+"x", api.OK, 1)
	moves(t, great+"\x00x", great, "/", "/"+noughts(60)+"x", api.OK, 0)
	moves(t, "/"+noughts(60)+"x", "/", great, great+"\x00x", api.OK, 0)
	moves(t, "/"+noughts(59)+"x", "/", great, "", api.ErrLong)
	moves(t, "\x00/"+noughts(59), "/", great, "\x00"+great, api.OK, 1)
	moves(t, "\x00/"+noughts(58), "/", great, "", api.ErrLong)
	moves(t, "/"+noughts(60), "/", great, great+"\x00", api.OK, 0)
	moves(t, "/"+noughts(59), "/", great, "", api.ErrLong)
	moves(t, strings.Repeat("g", 119), great, great[1:]+"h", great[1:]+"h"+great[1:], api.OK, 0)
}

// P14.3: ErrReloc, whichever of both is no prefix; ahead of ErrLong.
func TestMoveErrReloc(t *testing.T) {
	for _, bad := range badPrefixes() {
		for _, data := range []string{"", "abc", bad, z("0"), z("/o0"), z("/o0x")} {
			moves(t, data, bad, "/opt", "", api.ErrReloc)
			moves(t, data, "/o", bad, "", api.ErrReloc)
			moves(t, data, bad, bad, "", api.ErrReloc)
		}
	}
}

// P14.3: each prefix moves to each other one.
func TestMovePrefixes(t *testing.T) {
	for _, from := range goodPrefixes() {
		for n, to := range goodPrefixes() {
			if n%7 == 0 || len(to) > 50 {
				room := noughts(max(0, len(to)-len(from)) + 1)
				moves(t, from, from, to, to, api.OK, 0)
				moves(t, "\x00"+from+room, from, to, "\x00"+to+noughts(len(from)+len(room)-len(to)), api.OK, 1)
			}
		}
	}
}

// leaves reads leaves: a path that ends in a slash is a directory's, behind an = stand a file's bytes.
func leaves(said ...string) []api.Leaf {
	var l []api.Leaf
	for _, s := range said {
		p, data, _ := strings.Cut(s, "=")
		leaf := api.Leaf{Path: p, Data: data}
		if len(p) > 1 && strings.HasSuffix(p, "/") {
			leaf.Path, leaf.Dir = strings.TrimSuffix(p, "/"), true
		}
		l = append(l, leaf)
	}
	return l
}

// tell is what leaves are, cut short.
func tell(l []api.Leaf) string {
	return said(fmt.Sprint(l))
}

// movesLeaves holds Leaves against what it has to answer.
func movesLeaves(t *testing.T, l []api.Leaf, from, to string, want []api.Leaf, e api.Errno) {
	t.Helper()
	if got, is := reloc.Leaves(l, from, to); !slices.Equal(got, want) || is != e {
		t.Errorf("Leaves(%s, %s, %s): %s %d, not %s %d", tell(l), said(from), said(to), tell(got), is, tell(want), e)
	}
}

// P14.4: Leaves, of directories and files, texts and binary bytes.
func TestLeaves(t *testing.T) {
	movesLeaves(t, nil, "/o", "/opt", nil, api.OK)
	movesLeaves(t, []api.Leaf{}, "/o", "/opt", nil, api.OK)
	movesLeaves(t, leaves("/a/", "/a/b/", "/c/"), "/a", "/b", leaves("/a/", "/a/b/", "/c/"), api.OK)
	movesLeaves(t, leaves("/a=", "/b=x", "/c=\x00"), "/o", "/opt", leaves("/a=", "/b=x", "/c=\x00"), api.OK)
	movesLeaves(t, leaves("/a=/o", "/b/", "/b/c=/o:/o", "/d="+z("/o000")), "/o", "/opt", leaves("/a=/opt", "/b/", "/b/c=/opt:/opt", "/d="+z("/opt0")), api.OK)
	movesLeaves(t, leaves("/a=/opt", "/b/", "/b/c=/opt:/opt", "/d="+z("/opt0")), "/opt", "/o", leaves("/a=/o", "/b/", "/b/c=/o:/o", "/d="+z("/o000")), api.OK)
	// Paths stay, also where the prefix stands in them.
	movesLeaves(t, leaves("/o/", "/o/o=/o", "/o/o-o=o"), "/o", "/opt", leaves("/o/", "/o/o=/opt", "/o/o-o=o"), api.OK)
	// From a prefix to itself, and where it has no place.
	movesLeaves(t, leaves("/a/", "/a/b=/o", "/c="+z("/o0x")), "/o", "/o", leaves("/a/", "/a/b=/o", "/c="+z("/o0x")), api.OK)
	movesLeaves(t, leaves("/a/", "/a/b=/o", "/c="+z("/o0x")), "/q", "/opt", leaves("/a/", "/a/b=/o", "/c="+z("/o0x")), api.OK)
}

// P14.4: as many leaves as there may be, each of them moved.
func TestLeavesMany(t *testing.T) {
	var l, want []api.Leaf
	for n := range api.MaxLeaves {
		p := "/" + strconv.Itoa(100+n)
		l = append(l, api.Leaf{Path: p, Data: strconv.Itoa(n) + "/o"})
		want = append(want, api.Leaf{Path: p, Data: strconv.Itoa(n) + "/opt"})
	}
	movesLeaves(t, l, "/o", "/opt", want, api.OK)
	for n := range l {
		with := slices.Clone(l)
		with[n].Data = z("/o0")
		movesLeaves(t, with, "/o", "/opt", nil, api.ErrLong)
	}
}

// P14.4: a leaf that has just MaxLeaf bytes then, and one more.
func TestLeavesMaxLeaf(t *testing.T) {
	for other, moved := range map[string]string{"": "", "/o": "/opt", z("/o000"): z("/opt0")} {
		row := func(data, other string) []api.Leaf {
			return []api.Leaf{{Path: "/a", Data: other}, {Path: "/b", Data: data}, {Path: "/c", Data: other}}
		}
		movesLeaves(t, row("/o"+long(196), other), "/o", "/opt", row("/opt"+long(196), moved), api.OK)
		movesLeaves(t, row("/o"+long(197), other), "/o", "/opt", nil, api.ErrLong)
		movesLeaves(t, row("/o"+long(198), other), "/o", "/opt", nil, api.ErrLong)
		movesLeaves(t, row(long(200), other), "/o", "/opt", row(long(200), moved), api.OK)
	}
	a := func(data string) []api.Leaf { return []api.Leaf{{Path: "/a", Data: data}} }
	movesLeaves(t, a(strings.Repeat("a", 100)), "a", "bc", a(strings.Repeat("bc", 100)), api.OK)
	movesLeaves(t, a(strings.Repeat("a", 101)), "a", "bc", nil, api.ErrLong)
	movesLeaves(t, a(strings.Repeat("a", 200)), "a", strings.Repeat("b", 60), nil, api.ErrLong)
	movesLeaves(t, a(strings.Repeat("a", 200)), "a", "b", a(strings.Repeat("b", 200)), api.OK)
	movesLeaves(t, a(strings.Repeat("ab", 100)), "ab", "c", a(strings.Repeat("c", 100)), api.OK)
	// Binary bytes stay as many as they are.
	movesLeaves(t, a("/o"+noughts(198)), "/o", "/opt", a("/opt"+noughts(196)), api.OK)
	movesLeaves(t, a("/opt"+noughts(196)), "/opt", "/o", a("/o"+noughts(198)), api.OK)
}

// P14.4: a leaf of which the bytes can't be moved, wherever it stands.
func TestLeavesErrLong(t *testing.T) {
	for _, data := range []string{"/o0", "/o0x", "x0/o", "/o00x", "0/o0", "/o:/o0000x"} {
		for _, l := range [][]api.Leaf{
			leaves("/a=" + z(data)), leaves("/a="+z(data), "/b=/o"), leaves("/a=/o", "/b="+z(data)), leaves("/a/", "/a/b="+z(data)), leaves("/a/", "/a/b="+z(data), "/c/", "/c/d=x"),
		} {
			movesLeaves(t, l, "/o", "/opt", nil, api.ErrLong)
		}
	}
}

// badLeaves are no pack's.
func badLeaves() [][]api.Leaf {
	l := [][]api.Leaf{
		leaves("/"), leaves(""), leaves("a"), leaves("/A"), leaves("//a"), leaves("/a/b"), leaves("/a=/o", "/a/b="), leaves("/b=/o", "/a="), leaves("/a=/o", "/a=/o"), leaves("/a/", "/a="), leaves("/a=", "/b=", ""),
		{{}}, {{Path: "/", Dir: true}}, {{Path: "/a", Dir: true, Data: "/o"}}, {{Path: "/a", Data: "/o" + long(199)}}, {{Path: "/a", Data: "/opt" + long(197)}}, {{Path: "/a", Data: noughts(201)}}, {{Path: "/a", Data: "1"}, {Path: "/b", Data: long(1000)}},
		leaves("/" + long(33)), leaves("/"+long(32)+"/", "/"+long(32)+"/"+long(28)),
	}
	var many []api.Leaf
	for n := range api.MaxLeaves + 1 {
		many = append(many, api.Leaf{Path: "/" + strconv.Itoa(100+n)})
	}
	return append(l, many, append(many, many...))
}

// P14.4: ErrPack, of leaves that may be no pack's: ahead of ErrReloc, and of ErrLong.
func TestLeavesErrPack(t *testing.T) {
	for _, l := range badLeaves() {
		for _, c := range [][2]string{{"/o", "/opt"}, {"/opt", "/o"}, {"/o", "/o"}, {"", "/o"}, {"/o", long(61)}, {z("0"), ""}} {
			movesLeaves(t, l, c[0], c[1], nil, api.ErrPack)
		}
	}
	movesLeaves(t, leaves("/a="+z("/o0"), "/a="), "/o", "/opt", nil, api.ErrPack)
}

// P14.4: ErrReloc, of prefixes that are none, whatever the leaves are: ahead of ErrLong.
func TestLeavesErrReloc(t *testing.T) {
	for _, l := range [][]api.Leaf{nil, {}, leaves("/a/"), leaves("/a/", "/a/b="), leaves("/a=/o"), leaves("/a=" + z("/o0")), leaves("/a=/o" + long(198)), leaves("/a=" + noughts(200))} {
		for _, bad := range badPrefixes() {
			movesLeaves(t, l, bad, "/opt", nil, api.ErrReloc)
			movesLeaves(t, l, "/o", bad, nil, api.ErrReloc)
			movesLeaves(t, l, bad, bad, nil, api.ErrReloc)
		}
	}
}

// P14.5: there and back, where the places of the second prefix are just those where it was put.
func TestBack(t *testing.T) {
	for _, c := range [][4]string{
		{"see /o/bin", "/o", "/opt", "see /opt/bin"}, {"", "/o", "/opt", ""}, {"/o", "/o", "/opt", "/opt"}, {"/o /opt", "/o", "/opt", "/opt /optpt"}, {"/o/o", "/o", "/", "//"}, {"aaaaa", "aa", "b", "bba"}, {"aaaaa", "aa", "aab", "aabaaba"}, {"axx", "x", "aba", "aabaaba"}, {"xbx", "x", "aba", "abababa"},
		{"x0y", "/o", "/opt", "x0y"}, {"/opt/x0y", "/opt", "/o", "/o/x000y"}, {"0/o/x00", "/o", "/opt", "0/opt/x"}, {"0/opt/x", "/opt", "/o", "0/o/x00"}, {"/o:/o00000/o00", "/o", "/opt", "/opt:/opt0/opt"}, {"00/opt0/opt00x", "/opt", "o", "00o0000o00000x"},
	} {
		there, put, e := reloc.Move(z(c[0]), c[1], c[2])
		if there != z(c[3]) || e != api.OK || !slices.Equal(reloc.Places(there, c[2]), put) {
			t.Errorf("Move(%s, %s, %s): %s %v %d", c[0], c[1], c[2], said(there), put, e)
		}
		moves(t, there, c[2], c[1], z(c[0]), api.OK, reloc.Places(z(c[0]), c[1])...)
	}
}

// P14.5: where they are not, what is moved back is what stands there, not what was put.
func TestBackElsewhere(t *testing.T) {
	for _, c := range []struct {
		data, from, to, there, back string
		put, at, putBack            []int
	}{
		{"b a", "a", "b", "b b", "a a", []int{2}, []int{0, 2}, []int{0, 2}},
		{"/opt /x", "/x", "/opt", "/opt /opt", "/x /x", []int{5}, []int{0, 5}, []int{0, 3}},
		{"b0a", "a", "b", "b0b", "a0a", []int{2}, []int{0, 2}, []int{0, 2}},
		{"bb0a00", "a", "b", "bb0b00", "aa0a00", []int{3}, []int{0, 1, 3}, []int{0, 1, 3}},
		// As many, but elsewhere.
		{"ax", "x", "aa", "aaa", "xa", []int{1}, []int{0}, []int{0}},
		{"ax00y", "x", "aa", "aaa0y", "xa00y", []int{1}, []int{0}, []int{0}},
		{"y0ax0", "x", "aa", "y0aaa", "y0xa0", []int{3}, []int{2}, []int{2}},
		{"abx", "x", "aba", "ababa", "xba", []int{2}, []int{0}, []int{0}},
		{"abxx", "x", "aba", "ababaaba", "xbax", []int{2, 5}, []int{0, 5}, []int{0, 3}},
	} {
		moves(t, z(c.data), c.from, c.to, z(c.there), api.OK, c.put...)
		if l := reloc.Places(z(c.there), c.to); !slices.Equal(l, c.at) {
			t.Errorf("Places(%s, %s): %v", c.there, c.to, l)
		}
		moves(t, z(c.there), c.to, c.from, z(c.back), api.OK, c.putBack...)
	}
	// Of binary bytes there may be too few noughts then.
	moves(t, z("b0aaaa0"), "aaaa", "b", z("b0b0000"), api.OK, 2)
	moves(t, z("b0b0000"), "b", "aaaa", "", api.ErrLong)
}

// The chapter's examples, row by row.
func TestExamples(t *testing.T) {
	if l := reloc.Places("aaaa", "aa"); !slices.Equal(l, []int{0, 2}) {
		t.Error(l)
	}
	if l := reloc.Places("/o/p", "/o"); !slices.Equal(l, []int{0}) {
		t.Error(l)
	}
	moves(t, "see /o/bin", "/o", "/opt", "see /opt/bin", api.OK, 4)
	moves(t, z("/opt/x0y"), "/opt", "/o", z("/o/x000y"), api.OK, 0)
	moves(t, z("/o/x000y"), "/o", "/opt", z("/opt/x0y"), api.OK, 0)
	moves(t, z("/o/x0y"), "/o", "/opt", "", api.ErrLong)
	moves(t, z("/o/x000"), "/o", "/opt", z("/opt/x0"), api.OK, 0)
	moves(t, z("/o0"), "/o", "/op", "", api.ErrLong)
	moves(t, "abc", "", "x", "", api.ErrReloc)
}
