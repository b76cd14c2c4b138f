package tape_test

import (
	"math"
	"slices"
	"strings"
	"testing"

	"puncheon/api"
	"puncheon/tape"
)

// bytes256 has each byte once.
func bytes256() string {
	var all []byte
	for n := range 256 {
		all = append(all, byte(n))
	}
	return string(all)
}

// goodParts are parts that may be, each with what it says, written out by hand but for the long ones.
func goodParts() map[string]api.Part {
	return map[string]api.Part{
		"0;":                    {},
		"1;":                    {Number: 1},
		"7;":                    {Number: 7},
		"9;":                    {Number: 9},
		"10;":                   {Number: 10},
		"100;":                  {Number: 100},
		"1234567890;":           {Number: 1234567890},
		"4294967295;":           {Number: math.MaxUint32},
		"4294967296;":           {Number: math.MaxUint32 + 1},
		"9223372036854775807;":  {Number: math.MaxInt64},
		"9223372036854775808;":  {Number: math.MaxInt64 + 1},
		"10000000000000000000;": {Number: 10000000000000000000},
		"18446744073709551609;": {Number: math.MaxUint64 - 6},
		"18446744073709551610;": {Number: math.MaxUint64 - 5},
		"18446744073709551614;": {Number: math.MaxUint64 - 1},
		"18446744073709551615;": {Number: math.MaxUint64},

		"0:":                                  {IsText: true},
		"1:a":                                 {IsText: true, Text: "a"},
		"1:0":                                 {IsText: true, Text: "0"},
		"1:;":                                 {IsText: true, Text: ";"},
		"1::":                                 {IsText: true, Text: ":"},
		"1:\x00":                              {IsText: true, Text: "\x00"},
		"1:\xff":                              {IsText: true, Text: "\xff"},
		"1:\n":                                {IsText: true, Text: "\n"},
		"2:é":                                 {IsText: true, Text: "é"},
		"3:€":                                 {IsText: true, Text: "€"},
		"3:a;b":                               {IsText: true, Text: "a;b"},
		"3:1:a":                               {IsText: true, Text: "1:a"},
		"2:0;":                                {IsText: true, Text: "0;"},
		"9:123456789":                         {IsText: true, Text: "123456789"},
		"10:1234567890":                       {IsText: true, Text: "1234567890"},
		"99:" + strings.Repeat("x", 99):       {IsText: true, Text: strings.Repeat("x", 99)},
		"100:" + strings.Repeat("x", 100):     {IsText: true, Text: strings.Repeat("x", 100)},
		"65536:" + strings.Repeat(";", 65536): {IsText: true, Text: strings.Repeat(";", 65536)},
		"256:" + bytes256():                   {IsText: true, Text: bytes256()},
	}
}

// badParts may not be: a number that has a text, a text that has a number.
func badParts() []api.Part {
	return []api.Part{
		{IsText: true, Number: 1},
		{IsText: true, Number: math.MaxUint64},
		{IsText: true, Number: 1, Text: "a"},
		{IsText: true, Number: 1 << 63, Text: "a"},
		{Text: "a"},
		{Text: "\x00"},
		{Number: 1, Text: "1"},
		{Number: math.MaxUint64, Text: "a"},
	}
}

// shortTexts end ahead of the end of the part with which they begin.
func shortTexts() []string {
	return []string{
		"", "0", "1", "9", "12", "1234567890", "18446744073709551615", "1844674407370955161", "9999999999999999999",
		"1:", "2:", "2:a", "3:ab", "3:1:", "10:123456789", "2:\xff", "3:é", "100:" + strings.Repeat("x", 99),
		"18446744073709551615:", "18446744073709551615:abc", "18446744073709551614:a",
		"9223372036854775807:a", "9223372036854775808:a", "9223372036854775809:ab", "4294967296:", "4294967297:a", "4294967298:abc", "2147483648:ab",
	}
}

// tapeTexts begin with no part, whatever comes behind.
func tapeTexts() []string {
	heads := []string{
		"x", ";", ":", " ", "-", "+", "-1", "+1", ".", "a1", "/", "\x00", "\xff", "é", "٣", "３", "\u0130", "\U00010030",
		"00", "07", "01", "09", "000", "0018446744073709551615",
		"18446744073709551616", "18446744073709551617", "18446744073709551620", "18446744073709551625", "19000000000000000000", "20000000000000000000", "99999999999999999999",
		"184467440737095516150", "100000000000000000000", "36893488147419103232", "18446744073709551616000000000000000000", strings.Repeat("9", 100),
		"0x", "0.", "3.", "3a", "1e", "1 ", "1,", "1-", "12x", "1\x00", "1\xff", "1é", "1\u013a", "1\u013b", "1\uff1b", "1\U0001003a", "1_", "18446744073709551615x", "18446744073709551615 ",
	}
	all := slices.Clone(heads)
	for _, h := range heads {
		for _, behind := range []string{";", ":", "x", ":a", " ;", "\xff", ":" + strings.Repeat("a", 20)} {
			all = append(all, h+behind)
		}
	}
	return all
}

// P2.1: Number and Text.
func TestNumberText(t *testing.T) {
	for _, n := range []uint64{0, 1, 9, 10, math.MaxInt64, math.MaxInt64 + 1, math.MaxUint64 - 1, math.MaxUint64} {
		if p := tape.Number(n); p.IsText || p.Number != n || p.Text != "" {
			t.Errorf("Number(%d): %v", n, p)
		}
	}
	for _, s := range []string{"", "a", "0", "7;", "1:a", "\x00", "\xff\xfe", "é", bytes256(), strings.Repeat("x", 1<<16)} {
		if p := tape.Text(s); !p.IsText || p.Number != 0 || p.Text != s {
			t.Errorf("Text(%.50q): %.50v", s, p)
		}
	}
}

// P2.1: Check.
func TestCheck(t *testing.T) {
	for _, p := range goodParts() {
		if e := tape.Check(p); e != api.OK {
			t.Errorf("Check(%.50v): %d", p, e)
		}
	}
	for _, p := range badParts() {
		if e := tape.Check(p); e != api.ErrArg {
			t.Errorf("Check(%v): %d", p, e)
		}
	}
}

// P2.2: Put, of one part, and of several.
func TestPut(t *testing.T) {
	if s, e := tape.Put(); s != "" || e != api.OK {
		t.Errorf("Put(): %q %d", s, e)
	}
	for want, p := range goodParts() {
		if s, e := tape.Put(p); s != want || e != api.OK {
			t.Errorf("Put(%.50v): %.50q %d", p, s, e)
		}
		if s, e := tape.Put(tape.Number(20), p, p, tape.Text("é")); s != "20;"+want+want+"2:é" || e != api.OK {
			t.Errorf("Put(%.50v, among others): %.50q %d", p, s, e)
		}
	}
}

// P2.2: Put, of a part that may not be, wherever it stands.
func TestPutErrArg(t *testing.T) {
	for _, bad := range badParts() {
		for at := range 4 {
			l := slices.Insert([]api.Part{tape.Number(1), tape.Text("a"), tape.Text("")}, at, bad)
			if s, e := tape.Put(l...); s != "" || e != api.ErrArg {
				t.Errorf("Put(%v): %q %d", l, s, e)
			}
		}
	}
	for _, n := range []int{api.MaxParts, api.MaxParts + 1, 2 * api.MaxParts} {
		for _, at := range []int{0, api.MaxParts - 1, n - 1} {
			l := make([]api.Part, n)
			l[at].Text = "a"
			if s, e := tape.Put(l...); s != "" || e != api.ErrArg {
				t.Errorf("Put of %d, of which the one at %d may not be: %.50q %d", n, at, s, e)
			}
		}
	}
}

// P2.2: Put, how many parts there may be.
func TestPutErrLong(t *testing.T) {
	for want, p := range map[string]api.Part{"0;": {}, "0:": {IsText: true}, "1:;": {IsText: true, Text: ";"}} {
		for _, n := range []int{api.MaxParts - 1, api.MaxParts} {
			if s, e := tape.Put(slices.Repeat([]api.Part{p}, n)...); s != strings.Repeat(want, n) || e != api.OK {
				t.Errorf("Put of %d: %.50q %d", n, s, e)
			}
		}
		for _, n := range []int{api.MaxParts + 1, api.MaxParts + 2, 2 * api.MaxParts} {
			if s, e := tape.Put(slices.Repeat([]api.Part{p}, n)...); s != "" || e != api.ErrLong {
				t.Errorf("Put of %d: %.50q %d", n, s, e)
			}
		}
	}
}

// P2.3: Take, of what begins with a part, whatever comes behind.
func TestTake(t *testing.T) {
	for said, want := range goodParts() {
		for _, behind := range []string{"", "d", ";", ":", "0", "07;", "1:a", "\x00", "\xff", "é", bytes256()} {
			if p, rest, e := tape.Take(said + behind); p != want || rest != behind || e != api.OK {
				t.Errorf("Take(%.50q and %.50q): %.50v %.50q %d", said, behind, p, rest, e)
			}
		}
	}
}

// P2.3: Take, of what ends too early.
func TestTakeErrShort(t *testing.T) {
	for _, s := range shortTexts() {
		if p, rest, e := tape.Take(s); p != (api.Part{}) || rest != "" || e != api.ErrShort {
			t.Errorf("Take(%.50q): %.50v %.50q %d", s, p, rest, e)
		}
	}
	for said := range goodParts() {
		for n := range min(len(said), 200) {
			if p, rest, e := tape.Take(said[:n]); p != (api.Part{}) || rest != "" || e != api.ErrShort {
				t.Errorf("Take(%.50q, %d bytes): %.50v %.50q %d", said, n, p, rest, e)
			}
		}
	}
}

// P2.3: Take, of what begins otherwise.
func TestTakeErrTape(t *testing.T) {
	for _, s := range tapeTexts() {
		if p, rest, e := tape.Take(s); p != (api.Part{}) || rest != "" || e != api.ErrTape {
			t.Errorf("Take(%.50q): %v %.50q %d", s, p, rest, e)
		}
	}
}

// P2.3: Take, byte by byte: which may stand ahead, and which behind digits.
func TestTakeEachByte(t *testing.T) {
	for n := range 256 {
		c := string([]byte{byte(n)})
		digit := "0" <= c && c <= "9"
		want := api.ErrTape
		if digit {
			want = api.ErrShort
		}
		if _, _, e := tape.Take(c); e != want {
			t.Errorf("Take(%q): %d", c, e)
		}
		if _, _, e := tape.Take("0" + c + ";"); c != ";" && c != ":" && e != api.ErrTape {
			t.Errorf("Take(0 and %q): %d", c, e)
		}
		p, rest, e := tape.Take("2" + c + "ab;")
		switch {
		case c == ";" && p == tape.Number(2) && rest == "ab;" && e == api.OK:
		case c == ":" && p == tape.Text("ab") && rest == ";" && e == api.OK:
		case c != ";" && c != ":" && p == api.Part{} && rest == "" && e == api.ErrTape:
		default:
			t.Errorf("Take(2 and %q): %v %q %d", c, p, rest, e)
		}
	}
}

// P2.4: All, of rows.
func TestAll(t *testing.T) {
	if l, at, e := tape.All(""); len(l) != 0 || at != 0 || e != api.OK {
		t.Errorf("All of nothing: %v %d %d", l, at, e)
	}
	for said, p := range goodParts() {
		if l, at, e := tape.All(said); !slices.Equal(l, []api.Part{p}) || at != len(said) || e != api.OK {
			t.Errorf("All(%.50q): %.50v %d %d", said, l, at, e)
		}
		row := "5:ab;cd" + said + "0;" + said
		if l, at, e := tape.All(row); !slices.Equal(l, []api.Part{tape.Text("ab;cd"), p, tape.Number(0), p}) || at != len(row) || e != api.OK {
			t.Errorf("All(%.50q): %.50v %d %d", row, l, at, e)
		}
	}
}

// P2.4: All, how far it was a row.
func TestAllErrors(t *testing.T) {
	for _, row := range []string{"", "1;", "0:", "3:a;b", "1;2:xy3;", "18446744073709551615;4:1:aa"} {
		for want, texts := range map[api.Errno][]string{api.ErrShort: shortTexts()[1:], api.ErrTape: tapeTexts()} {
			for _, s := range texts {
				if l, at, e := tape.All(row + s); len(l) != 0 || at != len(row) || e != want {
					t.Errorf("All(%q and %.50q): %v %d %d", row, s, l, at, e)
				}
			}
		}
	}
	if l, at, e := tape.All("1;x2;y"); len(l) != 0 || at != 2 || e != api.ErrTape {
		t.Errorf("All of what has two faults: %v %d %d", l, at, e)
	}
}

// P2.4: All, how many parts there may be.
func TestAllErrLong(t *testing.T) {
	for said, p := range map[string]api.Part{"0;": {}, "0:": {IsText: true}, "12;": {Number: 12}, "2:1;": {IsText: true, Text: "1;"}} {
		for _, n := range []int{api.MaxParts - 1, api.MaxParts} {
			l, at, e := tape.All(strings.Repeat(said, n))
			if !slices.Equal(l, slices.Repeat([]api.Part{p}, n)) || at != n*len(said) || e != api.OK {
				t.Errorf("All of %d: %d parts, %d %d", n, len(l), at, e)
			}
		}
		for _, n := range []int{api.MaxParts + 1, api.MaxParts + 2, 2 * api.MaxParts} {
			l, at, e := tape.All(strings.Repeat(said, n))
			if len(l) != 0 || at != api.MaxParts*len(said) || e != api.ErrLong {
				t.Errorf("All of %d: %d parts, %d %d", n, len(l), at, e)
			}
		}
	}
}

// P2.4, R2: behind as many parts as may be, an error of Take's is named ahead of ErrLong.
func TestAllWhichErrorFirst(t *testing.T) {
	full := strings.Repeat("0;", api.MaxParts)
	for s, want := range map[string]api.Errno{"x": api.ErrTape, "07;": api.ErrTape, "1": api.ErrShort, "2:a": api.ErrShort, "1;": api.ErrLong} {
		if l, at, e := tape.All(full + s); len(l) != 0 || at != len(full) || e != want {
			t.Errorf("All(MaxParts parts and %q): %d parts, %d %d", s, len(l), at, e)
		}
	}
	if l, at, e := tape.All(strings.Repeat("0;", api.MaxParts-1) + "x"); len(l) != 0 || at != len(full)-2 || e != api.ErrTape {
		t.Errorf("All(MaxParts less 1 parts and x): %d parts, %d %d", len(l), at, e)
	}
}

// P2.5: Texts and Numbers, of rows.
func TestTextsNumbers(t *testing.T) {
	if l, e := tape.Texts(""); len(l) != 0 || e != api.OK {
		t.Errorf("Texts of nothing: %q %d", l, e)
	}
	if l, e := tape.Numbers(""); len(l) != 0 || e != api.OK {
		t.Errorf("Numbers of nothing: %v %d", l, e)
	}
	for said, p := range goodParts() {
		texts, eT := tape.Texts(said + said)
		numbers, eN := tape.Numbers(said + said)
		wantT, wantN := []string{p.Text, p.Text}, []uint64{p.Number, p.Number}
		if p.IsText && !(slices.Equal(texts, wantT) && eT == api.OK && len(numbers) == 0 && eN == api.ErrTape) {
			t.Errorf("of %.50q: Texts %.50q %d, Numbers %v %d", said, texts, eT, numbers, eN)
		}
		if !p.IsText && !(slices.Equal(numbers, wantN) && eN == api.OK && len(texts) == 0 && eT == api.ErrTape) {
			t.Errorf("of %.50q: Texts %.50q %d, Numbers %v %d", said, texts, eT, numbers, eN)
		}
	}
	if l, e := tape.Texts("0:2:1;3:a:b0:"); !slices.Equal(l, []string{"", "1;", "a:b", ""}) || e != api.OK {
		t.Errorf("Texts: %q %d", l, e)
	}
	if l, e := tape.Numbers("0;7;18446744073709551615;0;"); !slices.Equal(l, []uint64{0, 7, math.MaxUint64, 0}) || e != api.OK {
		t.Errorf("Numbers: %v %d", l, e)
	}
}

// P2.5: Texts and Numbers, of what has a part of the other sort: the first, one within, the last.
func TestTextsNumbersOfTheOtherSort(t *testing.T) {
	for _, s := range []string{"0;", "0;1:a", "1:a0;", "1:a7;1:b", "0:0:0;", "3:1;23;"} {
		if l, e := tape.Texts(s); len(l) != 0 || e != api.ErrTape {
			t.Errorf("Texts(%q): %q %d", s, l, e)
		}
	}
	for _, s := range []string{"0:", "0:1;", "1;0:", "1;1:a2;", "0;0;0:", "1;1:1"} {
		if l, e := tape.Numbers(s); len(l) != 0 || e != api.ErrTape {
			t.Errorf("Numbers(%q): %v %d", s, l, e)
		}
	}
}

// P2.5: Texts and Numbers have All's error, ahead of the one that a part of the other sort is.
func TestTextsNumbersAllsError(t *testing.T) {
	long := strings.Repeat("0;", api.MaxParts) + "0:"
	longTexts := strings.Repeat("0:", api.MaxParts) + "0;"
	for s, want := range map[string]api.Errno{
		"1": api.ErrShort, "1:": api.ErrShort, "1;2": api.ErrShort, "1:a2": api.ErrShort, "1;1:a2": api.ErrShort, "1:a1;2:b": api.ErrShort,
		"x": api.ErrTape, "1;x": api.ErrTape, "1:a07;": api.ErrTape, "1;1:a18446744073709551616;": api.ErrTape,
		long: api.ErrLong, longTexts: api.ErrLong, strings.Repeat("0;", api.MaxParts+1): api.ErrLong, strings.Repeat("0:", api.MaxParts+1): api.ErrLong,
	} {
		if l, e := tape.Texts(s); len(l) != 0 || e != want {
			t.Errorf("Texts(%.50q): %d texts, %d", s, len(l), e)
		}
		if l, e := tape.Numbers(s); len(l) != 0 || e != want {
			t.Errorf("Numbers(%.50q): %d numbers, %d", s, len(l), e)
		}
	}
	if l, e := tape.Texts(strings.Repeat("0:", api.MaxParts)); len(l) != api.MaxParts || e != api.OK {
		t.Errorf("Texts of MaxParts: %d %d", len(l), e)
	}
	if l, e := tape.Numbers(strings.Repeat("0;", api.MaxParts)); len(l) != api.MaxParts || e != api.OK {
		t.Errorf("Numbers of MaxParts: %d %d", len(l), e)
	}
}

// The rows of the chapter's Examples, as they stand there.
func TestChapterExamples(t *testing.T) {
	if s, e := tape.Put(tape.Number(7), tape.Text("a;b"), tape.Number(0), tape.Text("")); s != "7;3:a;b0;0:" || e != api.OK {
		t.Errorf("Put: %q %d", s, e)
	}
	for _, q := range []struct {
		s    string
		part api.Part
		rest string
		e    api.Errno
	}{
		{"3:abcd", tape.Text("abc"), "d", api.OK}, {"12;x", tape.Number(12), "x", api.OK},
		{s: "3:ab", e: api.ErrShort}, {s: "12", e: api.ErrShort},
		{s: "07;", e: api.ErrTape}, {s: "x", e: api.ErrTape}, {s: "18446744073709551616;", e: api.ErrTape}, {s: "3.", e: api.ErrTape},
	} {
		if p, rest, e := tape.Take(q.s); p != q.part || rest != q.rest || e != q.e {
			t.Errorf("Take(%s): %v %q %d", q.s, p, rest, e)
		}
	}
	if l, at, e := tape.All("1;2:xy3;"); !slices.Equal(l, []api.Part{tape.Number(1), tape.Text("xy"), tape.Number(3)}) || at != 8 || e != api.OK {
		t.Errorf("All: %v %d %d", l, at, e)
	}
	if l, at, e := tape.All("1;2"); len(l) != 0 || at != 2 || e != api.ErrShort {
		t.Errorf("All: %v %d %d", l, at, e)
	}
	if l, e := tape.Texts("1:a1:b"); !slices.Equal(l, []string{"a", "b"}) || e != api.OK {
		t.Errorf("Texts: %q %d", l, e)
	}
	if l, e := tape.Numbers("1;1:b"); len(l) != 0 || e != api.ErrTape {
		t.Errorf("Numbers: %v %d", l, e)
	}
}
