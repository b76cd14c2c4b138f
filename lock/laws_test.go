package lock_test

import (
	"fmt"
	"math"
	"regexp"
	"slices"
	"strings"
	"testing"

	"puncheon/api"
	"puncheon/lock"
	"puncheon/pack"
	"puncheon/version"
)

// lists are all lists of at most n of these.
func lists[T any](n int, of ...T) [][]T {
	all := [][]T{nil}
	from := 0
	for range n {
		to := len(all)
		for _, l := range all[from:to] {
			for _, one := range of {
				all = append(all, append(slices.Clone(l), one))
			}
		}
		from = to
	}
	return all
}

// orders are all orders of these rows.
func orders(l []api.Lock) [][]api.Lock {
	if len(l) == 0 {
		return [][]api.Lock{nil}
	}
	var all [][]api.Lock
	for n := range l {
		for _, rest := range orders(slices.Delete(slices.Clone(l), n, n+1)) {
			all = append(all, append([]api.Lock{l[n]}, rest...))
		}
	}
	return all
}

// numbers answers a function that tells numbers below its argument, each time the same ones.
func numbers() func(below int) int {
	x := uint64(1)
	return func(below int) int {
		x = x*6364136223846793005 + 1442695040888963407
		return int((x >> 33) % uint64(below))
	}
}

// someLocks are locks of all sorts.
func someLocks(many int) [][]api.Lock {
	next := numbers()
	var all [][]api.Lock
	for range many {
		var l []api.Lock
		for name := range 1 + next(16) {
			if next(3) > 0 && len(l) < api.MaxLocks {
				l = append(l, one(fmt.Sprintf("%c 1.%d %d", 'a'+name, next(2), next(2))))
			}
		}
		all = append(all, l)
	}
	return all
}

// plainOf is the second reading of P11.1.
func plainOf(l []api.Lock) ([]api.Lock, api.Errno) {
	for _, row := range l {
		if pack.CheckRef(row.Ref) != api.OK {
			return nil, api.ErrLock
		}
	}
	for n := range l {
		for k := range n {
			if l[n].Ref.Name == l[k].Ref.Name {
				return nil, api.ErrThere
			}
		}
	}
	if len(l) > 12 {
		return nil, api.ErrFull
	}
	var of []api.Lock
	for _, row := range l {
		at := 0
		for at < len(of) && of[at].Ref.Name < row.Ref.Name {
			at++
		}
		of = slices.Insert(of, at, row)
	}
	return of, api.OK
}

// plainValid tells whether l is a lock, without the package that is tried.
func plainValid(l []api.Lock) bool {
	for n, row := range l {
		if pack.CheckRef(row.Ref) != api.OK || n > 0 && l[n-1].Ref.Name >= row.Ref.Name {
			return false
		}
	}
	return len(l) <= 12
}

// asks holds all that is asked of l against the second reading, and tells whether it is a lock.
func asks(t *testing.T, l []api.Lock) bool {
	t.Helper()
	want, wantE := plainOf(l)
	if of, e := lock.Of(l...); e != wantE || !alike(of, want) {
		t.Fatalf("Of(%v): %v %d, not %v %d", l, of, e, want, wantE)
	}
	is, text, wantE := plainValid(l), "", api.ErrLock
	if is {
		text, wantE = tell(l), api.OK
	}
	if e := lock.Check(l); e != wantE {
		t.Fatalf("Check(%v): %d", l, e)
	}
	if s, e := lock.Text(l); s != text || e != wantE {
		t.Fatalf("Text(%v): %q %d", l, s, e)
	}
	if is {
		reads(t, text, l)
	} else {
		refuses(t, tell(l))
	}
	for _, name := range []string{"a", "b", "c", "", "d"} {
		var row api.Lock
		at := slices.IndexFunc(l, func(row api.Lock) bool { return row.Ref.Name == name })
		if is && at >= 0 {
			row = l[at]
		}
		finds(t, l, name, row, is && at >= 0)
	}
	return is
}

// P11.1 to P11.3: all short lists of rows that lie close together.
func TestLawShort(t *testing.T) {
	some := 0
	for _, l := range lists(4, append(rows("a 1", "a 1 x", "a 2", "b 1", "c 1-a", "aa 1", "a- 1"), badRows()[1], api.Lock{Ref: api.Ref{Name: "B", Version: v("1")}})...) {
		if asks(t, l) {
			some++
		}
	}
	if some < 50 {
		t.Errorf("just %d were locks", some)
	}
}

// P11.1: lists about as long as a lock may be.
func TestLawLong(t *testing.T) {
	next, some := numbers(), 0
	for range 3000 {
		l := numbered(10 + next(5))
		for range next(3) {
			n, k := next(len(l)), next(len(l))
			switch next(4) {
			case 0:
				l[n], l[k] = l[k], l[n]
			case 1:
				l[n].Ref.Name = l[k].Ref.Name
			case 2:
				l[n].Ref.Version.Many = next(6)
			case 3:
				l = slices.Delete(l, n, n+1)
			}
		}
		if asks(t, l) {
			some++
		}
	}
	if some < 200 {
		t.Errorf("just %d were locks", some)
	}
}

// P11.4: Of of a lock's rows, in any order, is the lock.
func TestLawOrders(t *testing.T) {
	for _, l := range append(someLocks(40), rows("a 1", "a- 1", "a0 2", "aa 1", "b 1", "ba 1")) {
		l = l[:min(len(l), 6)]
		for _, other := range orders(l) {
			ofIs(t, l, other...)
			if is := lock.Check(other) == api.OK; is != slices.Equal(other, l) {
				t.Fatalf("Check(%v): %v", other, is)
			}
		}
	}
}

// P11.4: Read of Text is the lock, Text of Read the text.
func TestLawRound(t *testing.T) {
	for _, l := range append(someLocks(2000), good()...) {
		s, e := lock.Text(l)
		back, f := lock.Read(s)
		if e != api.OK || f != api.OK || !alike(back, l) {
			t.Fatalf("Read of Text(%v): %q %d %v %d", l, s, e, back, f)
		}
		if again, e := lock.Text(back); again != s || e != api.OK {
			t.Fatalf("Text of Read(%q): %q %d", s, again, e)
		}
	}
}

// plainDiff is the second reading of P11.3.
func plainDiff(a, b []api.Lock) []string {
	var all []string
	for _, row := range a {
		if plainValid(a) && (!plainValid(b) || !slices.Contains(b, row)) {
			all = append(all, row.Ref.Name)
		}
	}
	for _, row := range b {
		if plainValid(b) && (!plainValid(a) || !slices.Contains(a, row)) && !slices.Contains(all, row.Ref.Name) {
			all = append(all, row.Ref.Name)
		}
	}
	slices.Sort(all)
	return all
}

// P11.3, P11.4: Diff of two, which is Diff of them the other way round, and has nothing just if both are one.
func TestLawDiff(t *testing.T) {
	all := slices.Concat(someLocks(100), good(), lists(2, rows("a 1", "a 1 x", "a 2", "b 1", "b 2", "c 1")...), full()[:2], bad()[:10])
	for _, a := range all {
		for _, b := range all {
			differ(t, a, b, plainDiff(a, b)...)
			if none := len(lock.Diff(a, b)) == 0; plainValid(a) && plainValid(b) && none != alike(a, b) {
				t.Fatalf("Diff(%v, %v) has nothing: %v", a, b, none)
			}
		}
	}
}

// plainRead is what s says, and whether it is a lock's text, without the package that is tried.
func plainRead(s string) ([]api.Lock, bool) {
	if !regexp.MustCompile(`\Alock 1\n([^ \n]+ [^ \n]+ [0-9a-f]{64}\n)*\z`).MatchString(s) {
		return nil, false
	}
	var l []api.Lock
	for _, m := range regexp.MustCompile(`([^ \n]+) ([^ \n]+) ([0-9a-f]{64})\n`).FindAllStringSubmatch(s, -1) {
		v, e := version.Read(m[2])
		if e != api.OK {
			return nil, false
		}
		row := api.Lock{Ref: api.Ref{Name: m[1], Version: v}}
		fmt.Sscanf(m[3], "%x", (*hex)(&row.Digest))
		l = append(l, row)
	}
	return l, plainValid(l) && tell(l) == s
}

// hex is a digest that is read from its digits.
type hex api.Digest

func (h *hex) Scan(state fmt.ScanState, _ rune) error {
	for n := range h {
		var high, low rune
		high, _, _ = state.ReadRune()
		low, _, _ = state.ReadRune()
		h[n] = byte(strings.IndexRune("0123456789abcdef", high)<<4 | strings.IndexRune("0123456789abcdef", low))
	}
	return nil
}

// readsAs holds Read of s against the second reading, and tells whether it is a lock's text.
func readsAs(t *testing.T, s string) bool {
	t.Helper()
	want, is := plainRead(s)
	if !is {
		refuses(t, s)
		return false
	}
	reads(t, s, want)
	return true
}

// P11.2: all short rows of lines.
func TestLawLines(t *testing.T) {
	some := 0
	for _, l := range lists(4, "lock 1", aRow, "a 2 "+noBytes, "b 1-rc "+noBytes, "a- 0 "+noBytes, "", "lock 2", "c 1", "lock 1 "+noBytes) {
		s := text(l...)
		for _, s := range []string{s, s + "x", strings.TrimSuffix(s, "\n")} {
			if readsAs(t, s) {
				some++
			}
		}
	}
	if some < 20 {
		t.Errorf("just %d texts were some lock's", some)
	}
}

// P11.2: all short lines of words, with blanks between them or not.
func TestLawWords(t *testing.T) {
	some := 0
	for _, l := range lists(6, " ", "b", "1", noBytes, "\n") {
		line := strings.Join(l, "")
		if readsAs(t, text(line)) {
			t.Fatalf("without a first line: %q", line)
		}
		if readsAs(t, text("lock 1", line)) {
			some++
		}
	}
	if some < 4 {
		t.Errorf("just %d lines were fine", some)
	}
}

// P11.2: texts of which a byte becomes another one, is left out, or stands there in addition.
func TestLawOtherByte(t *testing.T) {
	some := 0
	for _, l := range [][]api.Lock{nil, rows("a 1.2"), rows("b 1-rc1 x", "c 2 y"), rows("a.b 10.20 x", "a0 0 y", "b 1-a")} {
		s := tell(l)
		for n := range s {
			all := []string{s[:n], s[:n] + s[n+1:]}
			for _, c := range " \n/019afgzAF*=.-\x00\t\r\xff" {
				x := string([]byte{byte(c)})
				all = append(all, s[:n]+x+s[n+1:], s[:n]+x+s[n:])
			}
			for _, c := range all {
				if readsAs(t, c) {
					some++
				}
			}
		}
	}
	if some < 100 {
		t.Errorf("just %d texts were some lock's", some)
	}
}

// answers are what all calls answer of a lock, and of another one.
func answers(l, other []api.Lock) string {
	of, e := lock.Of(l...)
	s, f := lock.Text(l)
	row, is := lock.Find(l, "n000001")
	first, was := lock.Find(l, "a")
	return fmt.Sprintf("%d %v %d %q %d %v %v %v %v %q %q", lock.Check(l), of, e, s, f, row, is, first, was, lock.Diff(l, other), lock.Diff(other, l))
}

// R5: each answer is the same in whatever order, and however often, it is asked.
func TestRuleOrder(t *testing.T) {
	all := slices.Concat(good(), bad(), someLocks(50))
	asked := func(n int) string {
		l, e := lock.Read(tell(all[n]))
		return fmt.Sprint(answers(all[n], all[(n*7)%len(all)]), l, e)
	}
	var first []string
	for n := range all {
		first = append(first, asked(n))
	}
	for n, want := range slices.Backward(first) {
		if got := asked(n); got != want {
			t.Fatalf("%d: %s, not %s", n, got, want)
		}
	}
}

// R1: no call panics, or goes on without end, at whatever it is given.
func TestRuleEnds(t *testing.T) {
	huge := api.Lock{Ref: api.Ref{Name: long(1 << 20), Version: api.Version{Many: math.MinInt, Tag: long(1 << 20)}}}
	for _, l := range [][]api.Lock{{huge}, {huge, huge}, make([]api.Lock, 1<<16), numbered(1 << 14), slices.Repeat(rows("a 1"), 1<<16)} {
		answers(l, numbered(12))
		answers(numbered(12), l)
		lock.Find(numbered(12), huge.Ref.Name)
		refuses(t, tell(l))
	}
	for _, piece := range []string{"\n", " ", "\x00", "\xff", "x", "a ", "a 1 ", aRow + "\n", "lock 1\n", "9", ".", "1.", noBytes} {
		for _, ahead := range []string{"", "lock 1", headed, headed + "b ", headed + "b 1 ", headed + "b 1 " + noBytes, headed + aRow + "\n"} {
			refuses(t, ahead+strings.Repeat(piece, 1<<16))
		}
	}
}

// roomy is the same list in other memory, with room behind its end, in which other rows stand.
func roomy(l []api.Lock) []api.Lock {
	return append(append(make([]api.Lock, 0, len(l)+2), l...), rows("room 1", "a 66")...)[:len(l)]
}

// spoil writes over all rows, and the room behind their end.
func spoil(l []api.Lock) {
	for n := range l[:cap(l)] {
		l[:cap(l)][n] = api.Lock{Ref: api.Ref{Name: "spoilt"}, Digest: api.Digest{9}}
	}
}

// R3: what is handed in stays as it is, the room behind a list's end, too, and is not kept.
func TestRuleHandedIn(t *testing.T) {
	all := slices.Concat(good(), bad(), someLocks(100))
	for n, l := range all {
		other := all[(n*7)%len(all)]
		want := answers(l, other)
		in, inOther := roomy(l), roomy(other)
		ahead := fmt.Sprint(in[:cap(in)], inOther[:cap(inOther)])
		got := answers(in, inOther)
		if fmt.Sprint(in[:cap(in)], inOther[:cap(inOther)]) != ahead {
			t.Fatalf("%v, or %v, has changed", l, other)
		}
		if got != want {
			t.Fatalf("with room behind their ends %v, %v answer %s, not %s", l, other, got, want)
		}
		// The same lists with something else in them are asked anew.
		spoil(in)
		spoil(inOther)
		if got, want := answers(in, inOther), answers(slices.Clone(in), slices.Clone(inOther)); got != want {
			t.Fatalf("asked anew, behind %v, %v: %s, not %s", l, other, got, want)
		}
	}
}

// R3: what Of, Read and Diff answer is new memory, and what they were handed is not kept.
func TestRuleNew(t *testing.T) {
	for _, l := range append(good(), wrongOrder()...) {
		in := roomy(l)
		want, _ := plainOf(l)
		first, _ := lock.Of(in...)
		second, _ := lock.Of(in...)
		spoil(first)
		if !alike(second, want) || !alike(in, l) {
			t.Fatalf("of %v an answer shares memory: %v", l, second)
		}
		spoil(in)
		if !alike(second, want) {
			t.Fatalf("of %v something is kept: %v", l, second)
		}
	}
	for _, l := range good() {
		first, _ := lock.Read(tell(l))
		second, _ := lock.Read(tell(l))
		spoil(first)
		if !alike(second, l) {
			t.Fatalf("two answers share memory: %v, of %v", second, l)
		}
		reads(t, tell(l), l)
	}
	a, b := rows("a 1", "b 1"), rows("a 2", "c 1")
	first, second := lock.Diff(a, b), lock.Diff(a, b)
	for n := range first[:cap(first)] {
		first[:cap(first)][n] = "spoilt"
	}
	spoil(a)
	spoil(b)
	if !slices.Equal(second, []string{"a", "b", "c"}) {
		t.Errorf("Diff became %v", second)
	}
	differ(t, rows("a 1", "b 1"), rows("a 2", "c 1"), "a", "b", "c")
}
