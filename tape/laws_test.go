package tape_test

import (
	"math/big"
	"regexp"
	"slices"
	"strconv"
	"strings"
	"testing"

	"puncheon/api"
	"puncheon/tape"
)

// someTexts are all texts of at most n of these pieces.
func someTexts(n int, pieces ...string) []string {
	all := []string{""}
	from := 0
	for range n {
		to := len(all)
		for _, s := range all[from:to] {
			for _, piece := range pieces {
				all = append(all, s+piece)
			}
		}
		from = to
	}
	return all
}

// someLists are all lists of at most n of a few parts that lie close together.
func someLists(n int) [][]api.Part {
	parts := []api.Part{{}, {Number: 1}, {Number: 10}, {Number: 1<<64 - 1}, {IsText: true}, {IsText: true, Text: "0"}, {IsText: true, Text: "1;"}, {IsText: true, Text: "0:"}, {IsText: true, Text: "1:a1:b;01"}, {IsText: true, Text: "\x00\xffé"}}
	all := [][]api.Part{nil}
	from := 0
	for range n {
		to := len(all)
		for _, l := range all[from:to] {
			for _, p := range parts {
				all = append(all, append(slices.Clone(l), p))
			}
		}
		from = to
	}
	return all
}

// row says the parts without the package that is tried.
func row(l []api.Part) string {
	s := ""
	for _, p := range l {
		if p.IsText {
			s += strconv.Itoa(len(p.Text)) + ":" + p.Text
		} else {
			s += strconv.FormatUint(p.Number, 10) + ";"
		}
	}
	return s
}

var ahead = regexp.MustCompile(`^[0-9]*`)

// take does what the chapter says of Take, in the plainest way.
func take(s string) (api.Part, string, api.Errno) {
	digits := ahead.FindString(s)
	n, _ := new(big.Int).SetString("0"+digits, 10)
	rest := s[len(digits):]
	switch {
	case s == "":
		return api.Part{}, "", api.ErrShort
	case digits == "" || len(digits) > 1 && digits[0] == '0' || n.BitLen() > 64:
		return api.Part{}, "", api.ErrTape
	case rest == "":
		return api.Part{}, "", api.ErrShort
	case rest[0] == ';':
		return api.Part{Number: n.Uint64()}, rest[1:], api.OK
	case rest[0] != ':':
		return api.Part{}, "", api.ErrTape
	case n.Cmp(big.NewInt(int64(len(rest)-1))) > 0:
		return api.Part{}, "", api.ErrShort
	}
	return api.Part{IsText: true, Text: rest[1 : 1+n.Int64()]}, rest[1+n.Int64():], api.OK
}

// P2.3: Take, of all short texts of what stands in rows.
func TestLawTake(t *testing.T) {
	all := someTexts(6, "0", "1", "2", ";", ":", "a")
	all = append(all, someTexts(3, "18446744073709551615", "18446744073709551616", "1844674407370955161", "5", "6", ";", ":", "é")...)
	for _, s := range all {
		p, rest, e := tape.Take(s)
		if wantP, wantRest, wantE := take(s); p != wantP || rest != wantRest || e != wantE {
			t.Fatalf("Take(%q): %v %q %d, not %v %q %d", s, p, rest, e, wantP, wantRest, wantE)
		}
	}
}

// P2.6: All of Put are the parts; Put says what the chapter says.
func TestLawAllOfPut(t *testing.T) {
	for _, l := range someLists(3) {
		s, e := tape.Put(l...)
		if s != row(l) || e != api.OK {
			t.Fatalf("Put(%v): %q %d", l, s, e)
		}
		if back, at, e := tape.All(s); !slices.Equal(back, l) || at != len(s) || e != api.OK {
			t.Fatalf("All(%q): %v %d %d", s, back, at, e)
		}
	}
}

// P2.4, P2.6: Put of All is the row; what is no row has been one as far as All says.
func TestLawPutOfAll(t *testing.T) {
	for _, s := range someTexts(6, "0", "1", "2", ";", ":", "a") {
		l, at, e := tape.All(s)
		if e == api.OK {
			if back, e := tape.Put(l...); back != s || e != api.OK || at != len(s) {
				t.Fatalf("Put of All(%q): %q %d", s, back, e)
			}
			continue
		}
		if len(l) != 0 || at < 0 || at >= len(s) {
			t.Fatalf("All(%q): %v %d %d", s, l, at, e)
		}
		if _, _, first := take(s[at:]); first != e {
			t.Fatalf("All(%q): at %d stands %d, not %d", s, at, first, e)
		}
		if l, _, e := tape.All(s[:at]); e != api.OK || row(l) != s[:at] {
			t.Fatalf("All(%q), up to %d: %v %d", s, at, l, e)
		}
	}
}

// P2.5: Texts and Numbers are those of All, if there is nothing else.
func TestLawTextsNumbers(t *testing.T) {
	for _, s := range someTexts(6, "0", "1", "2", ";", ":", "a") {
		l, _, e := tape.All(s)
		eT, eN := e, e
		var wantT []string
		var wantN []uint64
		for _, p := range l {
			if p.IsText {
				wantT, eN = append(wantT, p.Text), api.ErrTape
			} else {
				wantN, eT = append(wantN, p.Number), api.ErrTape
			}
		}
		if eT != api.OK {
			wantT = nil
		}
		if eN != api.OK {
			wantN = nil
		}
		if texts, e := tape.Texts(s); !slices.Equal(texts, wantT) || e != eT {
			t.Fatalf("Texts(%q): %q %d", s, texts, e)
		}
		if numbers, e := tape.Numbers(s); !slices.Equal(numbers, wantN) || e != eN {
			t.Fatalf("Numbers(%q): %v %d", s, numbers, e)
		}
	}
}

// P2.6: a row behind another one is the row of both.
func TestLawRowBehindRow(t *testing.T) {
	all := someLists(2)
	for _, a := range all {
		sA, _ := tape.Put(a...)
		for _, b := range all {
			sB, _ := tape.Put(b...)
			both := slices.Concat(a, b)
			if s, e := tape.Put(both...); s != sA+sB || e != api.OK {
				t.Fatalf("Put(%v): %q %d, not %q", both, s, e, sA+sB)
			}
			if l, at, e := tape.All(sA + sB); !slices.Equal(l, both) || at != len(sA+sB) || e != api.OK {
				t.Fatalf("All(%q): %v %d %d", sA+sB, l, at, e)
			}
		}
	}
}

// P2.6: no row begins another one, but by whole parts.
func TestLawBegins(t *testing.T) {
	all := someLists(2)
	for _, a := range all {
		sA, _ := tape.Put(a...)
		for _, b := range all {
			sB, _ := tape.Put(b...)
			whole := len(a) <= len(b) && slices.Equal(a, b[:min(len(a), len(b))])
			if strings.HasPrefix(sB, sA) != whole {
				t.Fatalf("%q begins %q: not by whole parts", sA, sB)
			}
		}
	}
}

// P2.6: of what is taken of a row, with anything behind it, the first part is the same.
func TestLawFirstTaken(t *testing.T) {
	for _, l := range someLists(2)[1:] {
		s, _ := tape.Put(l...)
		for _, behind := range someTexts(3, "0", "7", ";", ":", "\xff") {
			rest := row(l[1:]) + behind
			if p, got, e := tape.Take(s + behind); p != l[0] || got != rest || e != api.OK {
				t.Fatalf("Take(%q and %q): %v %q %d", s, behind, p, got, e)
			}
		}
	}
}

// R1: no call panics, or goes on without end, at whatever it is given.
func TestRuleEnds(t *testing.T) {
	all := append(shortTexts(), tapeTexts()...)
	for n := range 256 {
		c := string([]byte{byte(n)})
		all = append(all, c, c+c, "1;"+c, "1:"+c, "2:"+c)
	}
	for _, s := range []string{"0", "9", "1", ";", ":", "a", "\xff", "1;", "1:", "0:", "9:"} {
		all = append(all, strings.Repeat(s, 1<<20))
	}
	for _, s := range all {
		tape.Take(s)
		tape.All(s)
		tape.Texts(s)
		tape.Numbers(s)
		tape.Check(api.Part{Text: s})
		tape.Put(tape.Text(s), api.Part{Text: s}, api.Part{IsText: true, Number: 1, Text: s})
		if back, rest, e := tape.Take(strconv.Itoa(len(s)) + ":" + s); back != tape.Text(s) || rest != "" || e != api.OK {
			t.Errorf("Take of the text %.50q: %.50v %.50q %d", s, back, rest, e)
		}
	}
}

// R3: what is handed in stays as it is, the room behind a list's end, too, and is not kept.
func TestRuleHandedIn(t *testing.T) {
	room := []api.Part{tape.Number(1), tape.Text("a"), tape.Number(2), tape.Text("b")}
	same := slices.Clone(room)
	s, e := tape.Put(room[:2]...)
	if s != "1;1:a" || e != api.OK || !slices.Equal(room, same) {
		t.Errorf("Put: %q %d %v", s, e, room)
	}
	room[0] = tape.Text("x")
	if again, _ := tape.Put(tape.Number(1), tape.Text("a")); s != "1;1:a" || again != "1;1:a" {
		t.Errorf("Put: %q %q", s, again)
	}
}

// R3: what is answered is new memory.
func TestRuleNewMemory(t *testing.T) {
	parts, _, _ := tape.All("1;1:a")
	texts, _ := tape.Texts("1:a1:b")
	numbers, _ := tape.Numbers("1;2;")
	clear(parts)
	clear(texts)
	clear(numbers)
	parts, _, _ = tape.All("1;1:a")
	texts, _ = tape.Texts("1:a1:b")
	numbers, _ = tape.Numbers("1;2;")
	if !slices.Equal(parts, []api.Part{tape.Number(1), tape.Text("a")}) || !slices.Equal(texts, []string{"a", "b"}) || !slices.Equal(numbers, []uint64{1, 2}) {
		t.Errorf("%v %q %v", parts, texts, numbers)
	}
}
