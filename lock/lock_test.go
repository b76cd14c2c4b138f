package lock_test

import (
	"crypto/sha256"
	"fmt"
	"math"
	"slices"
	"strings"
	"testing"

	"puncheon/api"
	"puncheon/lock"
	"puncheon/version"
)

// v is the version of a text that is known to be one's.
func v(text string) api.Version {
	x, e := version.Read(text)
	if e != api.OK {
		panic(text)
	}
	return x
}

// sum is the sum of a text's bytes, by the library.
func sum(s string) api.Digest {
	return sha256.Sum256([]byte(s))
}

// rows reads rows: a name, a blank, and a version's text; behind another blank stands what the digest is the sum of, that of no bytes if there is none.
func rows(said ...string) []api.Lock {
	var l []api.Lock
	for _, one := range said {
		words := append(strings.Split(one, " "), "")
		l = append(l, api.Lock{Ref: api.Ref{Name: words[0], Version: v(words[1])}, Digest: sum(words[2])})
	}
	return l
}

// one is the row that is said so.
func one(said string) api.Lock {
	return rows(said)[0]
}

// long is a text of n bytes.
func long(n int) string {
	return strings.Repeat("x", n)
}

// numbered are so many rows whose names rise.
func numbered(many int) []api.Lock {
	var l []api.Lock
	for n := range many {
		l = append(l, one(fmt.Sprintf("n%06d %d %d", n, n%100, n)))
	}
	return l
}

// good are locks that may be.
func good() [][]api.Lock {
	least, greatest := numbered(api.MaxLocks), numbered(api.MaxLocks)
	for n := range greatest {
		least[n].Ref.Version, least[n].Digest = v("0"), api.Digest{}
		greatest[n].Ref = api.Ref{Name: long(30) + fmt.Sprintf("%02d", n), Version: v("9999.9999.9999.9999-zzzzzz999")}
		greatest[n].Digest = api.Digest(slices.Repeat([]byte{255}, len(api.Digest{})))
	}
	return [][]api.Lock{
		nil, {}, rows("a 1.2"), rows("a 1", "b 1"), rows("a 2", "b 1", "c 1"), rows("a 1", "b 1", "c 1", "d 1-rc1"), rows("a 1.0", "aa 1", "ab 1-a"), rows("a 1 x"), rows("a 1-rc9 x", "b 2 x"), rows("+ 1", "- 1", ".a 1", "0 1", "_ 1", "a 1", "a+ 1", "a- 1", "a.b 1", "a0 1", "a_ 1", "aa 1"),
		numbered(1), numbered(2), numbered(api.MaxLocks - 1), numbered(api.MaxLocks), least, greatest,
	}
}

// badRows may not be, each by one of its parts.
func badRows() []api.Lock {
	l := []api.Lock{{}, {Digest: sum("")}, {Ref: api.Ref{Name: "b"}}, {Ref: api.Ref{Name: "b"}, Digest: sum("")}, {Ref: api.Ref{Version: v("1")}, Digest: sum("")}}
	for _, name := range []string{"", ".", "..", "B", "b c", " ", "b ", "b/c", "/b", "b\n", "é", "\xff", "\x00", long(33), long(1000)} {
		l = append(l, api.Lock{Ref: api.Ref{Name: name, Version: v("1")}, Digest: sum("")})
	}
	for _, v := range []api.Version{{Many: 5}, {Many: 1, Step: 1}, {Many: 1, Tag: "A"}, {Many: 1, Tag: "a", Step: 1000}, {Many: math.MinInt}, {Many: math.MaxInt}, {Many: 1, Numbers: [4]int{-1}}, {Many: 1, Numbers: [4]int{10000}}, {Many: 1, Numbers: [4]int{1, 1}}, {Tag: "a"}, {Many: 1, Tag: long(7)}} {
		l = append(l, api.Lock{Ref: api.Ref{Name: "b", Version: v}, Digest: sum("")})
	}
	return l
}

// wrongOrder are rows that may be, and are no lock as they stand; but of them there is one.
func wrongOrder() [][]api.Lock {
	twelve := numbered(api.MaxLocks)
	slices.Reverse(twelve)
	l := [][]api.Lock{rows("b 1", "a 2"), rows("b 1", "a 1"), rows("a 1", "c 1", "b 1"), rows("b 1", "c 1", "a 1"), rows("aa 1", "a 1"), rows("a_ 1", "a- 1"), twelve}
	for n := range api.MaxLocks - 1 {
		swapped := numbered(api.MaxLocks)
		swapped[n], swapped[n+1] = swapped[n+1], swapped[n]
		l = append(l, swapped)
	}
	return l
}

// twice are rows of which two have one name.
func twice() [][]api.Lock {
	all := [][]api.Lock{rows("a 1", "a 2"), rows("a 1", "a 1"), rows("a 1 x", "a 1 y"), rows("a 1 x", "a 2 x"), rows("a 2", "a 1"), rows("a 1", "b 1", "a 1"), rows("a 1", "b 1", "b 1-a"), rows("b 1", "a 1", "b 1"), append(numbered(11), numbered(1)...), append(numbered(12), numbered(1)...), append(numbered(12), numbered(12)...), append(numbered(13), one("n000012 1")), append(numbered(100), numbered(1)...)}
	for n := range api.MaxLocks {
		all = append(all, append(numbered(api.MaxLocks), numbered(api.MaxLocks)[n]), slices.Insert(numbered(api.MaxLocks-1), n, one("n000003 7")))
	}
	return all
}

// full are more rows than a lock has.
func full() [][]api.Lock {
	back := numbered(13)
	slices.Reverse(back)
	return [][]api.Lock{numbered(13), numbered(14), numbered(24), numbered(1000), back}
}

// bad are no locks.
func bad() [][]api.Lock {
	all := slices.Concat(wrongOrder(), twice(), full())
	for _, row := range badRows() {
		for _, l := range [][]api.Lock{nil, rows("a 1"), numbered(11), numbered(12), numbered(13)} {
			all = append(all, append(slices.Clone(l), row), append([]api.Lock{row}, l...))
		}
	}
	return all
}

// alike tells whether a and b are the same, row by row.
func alike(a, b []api.Lock) bool {
	return slices.Equal(a, b)
}

// P11.1: what may be, and what may not.
func TestCheck(t *testing.T) {
	for _, l := range good() {
		if e := lock.Check(l); e != api.OK {
			t.Errorf("Check(%v): %d", l, e)
		}
	}
	for _, l := range bad() {
		if e := lock.Check(l); e != api.ErrLock {
			t.Errorf("Check(%v): %d", l, e)
		}
	}
	if e := lock.Check(slices.Repeat(badRows(), 100)); e != api.ErrLock {
		t.Errorf("Check of many bad rows: %d", e)
	}
}

// ofErr asks Of, and tells what is otherwise than that error.
func ofErr(t *testing.T, want api.Errno, l ...api.Lock) {
	t.Helper()
	if got, e := lock.Of(l...); len(got) != 0 || e != want {
		t.Errorf("Of(%v): %v %d, not %d", l, got, e, want)
	}
}

// ofIs asks Of, and tells what is otherwise than that lock.
func ofIs(t *testing.T, want []api.Lock, l ...api.Lock) {
	t.Helper()
	if got, e := lock.Of(l...); !alike(got, want) || e != api.OK {
		t.Errorf("Of(%v): %v %d", l, got, e)
	}
}

// P11.1, P11.4: the lock of rows in any order.
func TestOf(t *testing.T) {
	ofIs(t, nil)
	ofIs(t, nil, nil...)
	ofIs(t, nil, []api.Lock{}...)
	ofIs(t, rows("a 1"), rows("a 1")...)
	ofIs(t, rows("a 2", "b 1"), rows("b 1", "a 2")...)
	ofIs(t, rows("a 1 x", "b 3 y", "c 2 z"), rows("c 2 z", "a 1 x", "b 3 y")...)
	// By names alone, byte by byte, whatever the versions and digests.
	ofIs(t, rows("+ 9", "- 8", "0 7", "_ 6", "a 5", "a+ 4", "a0 3", "aa 2", "b 1"), rows("b 1", "a 5", "aa 2", "a0 3", "a+ 4", "_ 6", "0 7", "- 8", "+ 9")...)
	ofIs(t, rows("a10 1", "a2 1"), rows("a2 1", "a10 1")...)
	ofIs(t, rows("a 1", "b 1"), rows("b 1", "a 1")...)
	for _, l := range good() {
		ofIs(t, l, l...)
		back := slices.Clone(l)
		slices.Reverse(back)
		ofIs(t, l, back...)
		for n := range l {
			ofIs(t, l, append(slices.Clone(l[n:]), l[:n]...)...)
		}
	}
	for _, l := range wrongOrder() {
		want := slices.Clone(l)
		slices.SortFunc(want, func(a, b api.Lock) int { return strings.Compare(a.Ref.Name, b.Ref.Name) })
		ofIs(t, want, l...)
	}
}

// P11.1: the errors of Of, in their order.
func TestOfErrors(t *testing.T) {
	for _, l := range twice() {
		ofErr(t, api.ErrThere, l...)
	}
	for _, l := range full() {
		ofErr(t, api.ErrFull, l...)
	}
	for _, row := range badRows() {
		for _, l := range slices.Concat(good(), wrongOrder(), twice(), full()) {
			for _, at := range []int{0, len(l) / 2, len(l)} {
				ofErr(t, api.ErrLock, slices.Insert(slices.Clone(l), at, row)...)
			}
		}
		ofErr(t, api.ErrLock, row, row)
	}
	ofErr(t, api.ErrFull, numbered(100000)...)
	ofErr(t, api.ErrThere, append(numbered(100000), numbered(1)...)...)
	ofErr(t, api.ErrLock, append(append(numbered(100000), numbered(1)...), api.Lock{})...)
}

// tell is the text of l, without the package that is tried.
func tell(l []api.Lock) string {
	var s strings.Builder
	s.WriteString("lock 1\n")
	for _, row := range l {
		text, _ := version.Text(row.Ref.Version)
		fmt.Fprintf(&s, "%s %s %x\n", row.Ref.Name, text, row.Digest)
	}
	return s.String()
}

// P11.2: texts of locks.
func TestText(t *testing.T) {
	for _, l := range good() {
		if s, e := lock.Text(l); s != tell(l) || e != api.OK {
			t.Errorf("Text(%v): %q %d", l, s, e)
		}
	}
	for _, l := range bad() {
		if s, e := lock.Text(l); s != "" || e != api.ErrLock {
			t.Errorf("Text(%v): %q %d", l, s, e)
		}
	}
}

// reads reads s, and tells what is otherwise than that lock.
func reads(t *testing.T, s string, want []api.Lock) {
	t.Helper()
	if l, e := lock.Read(s); !alike(l, want) || e != api.OK {
		t.Errorf("Read(%q): %v %d", s, l, e)
	}
}

// refuses reads s, and tells if it is some lock's text.
func refuses(t *testing.T, s string) {
	t.Helper()
	if l, e := lock.Read(s); len(l) != 0 || e != api.ErrLock {
		t.Errorf("Read(%.2000q): %v %d", s, l, e)
	}
}

// text is that of lines, a line feed behind each.
func text(lines ...string) string {
	s := ""
	for _, line := range lines {
		s += line + "\n"
	}
	return s
}

// Parts of the chapter's text.
const (
	noBytes = "e3b0c44298fc1c149afbf4c8996fb92427ae41e4649b934ca495991b7852b855"
	headed  = "lock 1\n"
	aRow    = "a 1.2 " + noBytes
)

// P11.2: texts of locks are read; each piece of one that ends behind a line is one, too, and no other one.
func TestRead(t *testing.T) {
	reads(t, headed, nil)
	reads(t, headed+aRow+"\n", rows("a 1.2"))
	for _, l := range good() {
		s := tell(l)
		reads(t, s, l)
		for n := range s {
			if n > 0 && s[n-1] == '\n' {
				reads(t, s[:n], l[:strings.Count(s[:n], "\n")-1])
			} else {
				refuses(t, s[:n])
			}
		}
		for _, other := range []string{s + "\n", "\n" + s, s + " ", s + " \n", " " + s, s + s, s + "x", s + "\x00", s + "\x00\n", s + headed, headed + s, s + "lock 1", s[:len(s)-1] + "\r\n", s[:len(s)-1], s[len(headed):], strings.ReplaceAll(s, "\n", "\n\n"), strings.ReplaceAll(s, "\n", "\r"), strings.ReplaceAll(s, "\n", "\r\n"), strings.ReplaceAll(s, " ", "  "), strings.ReplaceAll(s, " ", "\t"), strings.ToUpper(s), strings.ReplaceAll(s, "\n", " \n")} {
			refuses(t, other)
		}
	}
}

// P11.2: the first line.
func TestReadHead(t *testing.T) {
	for _, bad := range []string{"", " ", "x", "lock", "lock ", "lock 2", "lock 0", "lock 01", "lock 10", "lock 11", "lock 1 ", " lock 1", "lock  1", "lock 1 1", "lock 1 x", "lock1", "lock\t1", "lock 1\r", "lock 1\x00", "Lock 1", "LOCK 1", "locks 1", "loc 1", "lock one", "lock v1", "lock 1.0", "lock -1", "lock +1", "1 lock", "\ufefflock 1", "#lock 1", "note 1", "keg b 1.2", "lock 1 " + noBytes, aRow} {
		refuses(t, bad)
		refuses(t, text(bad))
		refuses(t, text(bad, bad))
		refuses(t, text(bad, aRow))
		refuses(t, text(bad, "lock 1"))
		refuses(t, text(bad, "lock 1", aRow))
		refuses(t, text("lock 1", bad)[:len("lock 1\n")+len(bad)]+"x")
	}
	refuses(t, text("lock 1", "lock 1"))
	refuses(t, text("lock 1", "lock 1", aRow))
	refuses(t, text("lock 1", aRow, "lock 1"))
	refuses(t, text(aRow, "lock 1"))
	refuses(t, text(aRow))
	// A pack may have the name lock, and the version 1.
	reads(t, text("lock 1", "lock 1 "+noBytes), rows("lock 1"))
}

// P11.2: lines that say no row, alone and among others.
func TestReadRow(t *testing.T) {
	for _, bad := range []string{
		"", " ", "  ", "b", "b ", "b 1", "b 1 ", "1 " + noBytes, "b " + noBytes, noBytes, "b  " + noBytes, "  " + noBytes, " 1 " + noBytes, " b 1 " + noBytes, "b  1 " + noBytes, "b 1  " + noBytes, "b 1 " + noBytes + " ", "b 1 " + noBytes + " x", "b 1 " + noBytes + " " + noBytes, "b 1 1 " + noBytes, "b b 1 " + noBytes, "b c 1 " + noBytes, "b\t1 " + noBytes, "b 1\t" + noBytes, "b1 " + noBytes, "b 1" + noBytes, "b 1 " + noBytes + "\r", "b 1 " + noBytes + "\x00", "b-1 " + noBytes, "b=1 " + noBytes, "1 b " + noBytes, "b " + noBytes + " 1", noBytes + " b 1", noBytes + " 1 b", "b 1 " + noBytes + strings.Repeat(" x", 1000),
		"B 1 " + noBytes, ". 1 " + noBytes, ".. 1 " + noBytes, "b/c 1 " + noBytes, "/b 1 " + noBytes, "é 1 " + noBytes, "\xff 1 " + noBytes, long(33) + " 1 " + noBytes, "b: 1 " + noBytes, "b\x00 1 " + noBytes,
		"b 1. " + noBytes, "b .1 " + noBytes, "b 01 " + noBytes, "b 1.02 " + noBytes, "b 1.00 " + noBytes, "b 1..2 " + noBytes, "b 1.2.3.4.5 " + noBytes, "b 10000 " + noBytes, "b v1 " + noBytes, "b =1 " + noBytes, "b * " + noBytes, "b 1.* " + noBytes, "b >=1 " + noBytes, "b -1 " + noBytes, "b +1 " + noBytes, "b 1- " + noBytes, "b 1-rc0 " + noBytes, "b 1-rc01 " + noBytes, "b 1-RC " + noBytes, "b 1-1 " + noBytes, "b 1-rc1000 " + noBytes, "b 1-abcdefg " + noBytes, "b x " + noBytes, "b rc " + noBytes,
		"b 1 " + strings.ToUpper(noBytes), "b 1 E" + noBytes[1:], "b 1 " + noBytes[:63] + "F", "b 1 A" + noBytes[1:], "b 1 " + noBytes[1:], "b 1 " + noBytes + "0", "b 1 0x" + noBytes[2:], "b 1 g" + noBytes[1:], "b 1 " + long(64), "b 1 0", "b 1 -", "b 1 +" + noBytes[1:], "b 1 " + noBytes[:63] + "\xff", "b 1 " + noBytes[:32], "b 1 \n" + noBytes, "b 1 " + noBytes[:32] + "\n" + noBytes[32:],
	} {
		refuses(t, headed+bad+"x")
		refuses(t, text("lock 1", bad))
		refuses(t, text("lock 1", bad, bad))
		refuses(t, text("lock 1", "a 1 "+noBytes, bad))
		refuses(t, text("lock 1", bad, "c 1 "+noBytes))
		refuses(t, text("lock 1", "a 1 "+noBytes, bad, "c 1 "+noBytes))
		refuses(t, bad)
		refuses(t, text(bad))
	}
}

// P11.2: rows that don't rise, two of one name, and how many there may be.
func TestReadRows(t *testing.T) {
	for _, l := range slices.Concat(wrongOrder(), twice(), full()) {
		refuses(t, tell(l))
	}
	refuses(t, tell(numbered(10000)))
	reads(t, tell(numbered(12)), numbered(12))
	refuses(t, tell(numbered(12))+"n000012 1 "+noBytes)
}

// finds finds, and tells what is otherwise.
func finds(t *testing.T, l []api.Lock, name string, want api.Lock, wantIs bool) {
	t.Helper()
	if row, is := lock.Find(l, name); row != want || is != wantIs {
		t.Errorf("Find(%v, %.100q): %v %v", l, name, row, is)
	}
}

// P11.3: the row of a name, and none.
func TestFind(t *testing.T) {
	l := rows("a 1 x", "b 2 y", "c 3 z")
	finds(t, l, "a", one("a 1 x"), true)
	finds(t, l, "b", one("b 2 y"), true)
	finds(t, l, "c", one("c 3 z"), true)
	for _, name := range []string{"", "d", "A", "aa", "a ", " a", ".", "a\n", "a 1", "0", long(33), long(100000)} {
		finds(t, l, name, api.Lock{}, false)
	}
	for _, l := range good() {
		for _, row := range l {
			finds(t, l, row.Ref.Name, row, true)
		}
		for _, name := range []string{"", "zz", "n", "x", ".", "N000000"} {
			finds(t, l, name, api.Lock{}, false)
		}
	}
	for _, l := range bad() {
		for _, row := range l[:min(len(l), 20)] {
			finds(t, l, row.Ref.Name, api.Lock{}, false)
		}
		finds(t, l, "a", api.Lock{}, false)
		finds(t, l, "", api.Lock{}, false)
	}
}

// differ asks Diff, both ways round, and tells what is otherwise than these names.
func differ(t *testing.T, a, b []api.Lock, want ...string) {
	t.Helper()
	if d := lock.Diff(a, b); !slices.Equal(d, want) {
		t.Errorf("Diff(%v, %v): %q, not %q", a, b, d, want)
	}
	if d := lock.Diff(b, a); !slices.Equal(d, want) {
		t.Errorf("Diff(%v, %v): %q, not %q", b, a, d, want)
	}
}

// names are those of rows.
func names(l []api.Lock) []string {
	var all []string
	for _, row := range l {
		all = append(all, row.Ref.Name)
	}
	return all
}

// P11.3, P11.4: where two locks have not the same row.
func TestDiff(t *testing.T) {
	differ(t, rows("a 1", "b 1"), rows("a 2", "b 1"), "a")
	differ(t, rows("a 1", "b 1"), rows("a 1-a", "b 1"), "a")
	differ(t, rows("a 1", "b 1"), rows("a 1.0", "b 1"), "a")
	differ(t, rows("a 1-a", "b 1-a"), rows("a 1-b", "b 1-a1"), "a", "b")
	differ(t, rows("a 1", "b 1"), rows("a 1", "b 1 x"), "b")
	differ(t, rows("a 1 x", "b 1 x"), rows("a 1 y", "b 1 x"), "a")
	differ(t, rows("a 1"), rows("b 1"), "a", "b")
	differ(t, rows("a 1", "c 1"), rows("b 1", "c 1"), "a", "b")
	differ(t, rows("b 1", "d 1"), rows("a 1", "c 1", "e 1"), "a", "b", "c", "d", "e")
	differ(t, rows("c 1"), rows("a 1", "c 2"), "a", "c")
	differ(t, rows("a 1", "b 1", "c 1"), rows("b 1"), "a", "c")
	differ(t, rows("a10 1", "a2 1"), rows("a- 1"), "a-", "a10", "a2")
	differ(t, nil, nil)
	differ(t, []api.Lock{}, nil)
	one := slices.Clone(rows("a 1"))
	one[0].Digest[31]++
	differ(t, rows("a 1"), one, "a")
	for _, l := range good() {
		differ(t, l, slices.Clone(l))
		differ(t, l, nil, names(l)...)
		differ(t, l, []api.Lock{}, names(l)...)
	}
	greatest := good()[len(good())-1]
	differ(t, numbered(12), greatest, append(names(numbered(12)), names(greatest)...)...)
}

// P11.3: a lock that may not be is one without rows.
func TestDiffBad(t *testing.T) {
	all := bad()
	for n, l := range all {
		differ(t, l, nil)
		differ(t, l, l)
		differ(t, l, all[n/2])
		differ(t, l, rows("a 1", "b 1"), "a", "b")
		differ(t, l, numbered(12), names(numbered(12))...)
	}
}

// The chapter's examples, row by row.
func TestExamples(t *testing.T) {
	s, e := lock.Text(rows("a 1.2"))
	if s != text("lock 1", aRow) || e != api.OK {
		t.Errorf("Text: %q %d", s, e)
	}
	l, e := lock.Of(rows("b 1", "a 2")...)
	if !slices.Equal(names(l), []string{"a", "b"}) || e != api.OK {
		t.Errorf("Of: %v %d", l, e)
	}
	ofErr(t, api.ErrThere, rows("a 1", "a 2")...)
	refuses(t, s[:len(s)-1])
	reads(t, "lock 1\n", nil)
	refuses(t, "lock 2"+s[len("lock 1"):])
	differ(t, rows("a 1", "b 1"), rows("a 2", "b 1", "c 1"), "a", "c")
}
