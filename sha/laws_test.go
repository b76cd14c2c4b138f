package sha_test

import (
	"bytes"
	"slices"
	"strings"
	"testing"

	"puncheon/api"
	"puncheon/sha"
)

// goOn answers the sum that goes on of the rows, one More a row.
func goOn(t *testing.T, r api.Running, rows ...[]byte) api.Running {
	t.Helper()
	for _, row := range rows {
		var e api.Errno
		if r, e = sha.More(r, row); e != api.OK {
			t.Fatalf("More: %d", e)
		}
	}
	return r
}

// withRoom answers a row of those bytes that has room behind its end, and all that the room holds.
func withRoom(b []byte) (row, all []byte) {
	all = append(slices.Clone(b), slices.Repeat([]byte{0xee}, 256)...)
	return all[:len(b)], all
}

// P3.4: in parts, however they are cut, it comes to what it comes to at once.
func TestLawParts(t *testing.T) {
	for _, n := range append(edges(), 1000, 4096, 10007) {
		for _, b := range someBytes(n) {
			want := sha.Sum(b)
			once := goOn(t, sha.Begin(), b)
			for _, size := range []int{1, 3, 7, 55, 56, 63, 64, 65, 127, 128, 129, 1000} {
				rows := slices.Collect(slices.Chunk(b, size))
				r := goOn(t, sha.Begin(), rows...)
				if d, e := sha.End(r); d != want || e != api.OK {
					t.Fatalf("%d bytes, in parts of %d: %x %d", n, size, d, e)
				}
				if !same(r, once) {
					t.Fatalf("%d bytes, in parts of %d: %v, not %v", n, size, r, once)
				}
				if d := sha.Sum(rows...); d != want {
					t.Fatalf("%d bytes, in rows of %d: %x", n, size, d)
				}
			}
		}
	}
}

// P3.4: in parts of all small lengths, three of them.
func TestLawThreeParts(t *testing.T) {
	b := someBytes(200)[2]
	lengths := []int{0, 1, 31, 32, 33, 63, 64, 65}
	for _, x := range lengths {
		for _, y := range lengths {
			for _, z := range lengths {
				l := [][]byte{b[:x], b[x : x+y], b[x+y : x+y+z]}
				d, e := sha.End(goOn(t, sha.Begin(), l...))
				if d != sha.Sum(b[:x+y+z]) || d != sha.Sum(l...) || e != api.OK {
					t.Fatalf("parts of %d, %d, %d: %x %d", x, y, z, d, e)
				}
			}
		}
	}
}

// P3.4: Read of Text is the digest, Text of Read the text.
func TestLawTextRead(t *testing.T) {
	for n := range 300 {
		for _, b := range someBytes(n) {
			d := sha.Sum(b)
			s := sha.Text(d)
			if back, e := sha.Read(s); back != d || e != api.OK {
				t.Fatalf("Read(Text(%x)): %x %d", d, back, e)
			}
			turned := s[1:] + s[:1]
			if back, e := sha.Read(turned); sha.Text(back) != turned || e != api.OK {
				t.Fatalf("Text(Read(%s)): %x %d", turned, back, e)
			}
		}
	}
	for _, d := range []api.Digest{{}, api.Digest(slices.Repeat([]byte{255}, 32)), api.Digest(slices.Repeat([]byte{0x0f}, 32)), api.Digest(slices.Repeat([]byte{0xf0}, 32))} {
		if back, e := sha.Read(sha.Text(d)); back != d || e != api.OK {
			t.Fatalf("Read(Text(%x)): %x %d", d, back, e)
		}
	}
}

// R1: no call panics, or goes on without end, at whatever it is given.
func TestRuleEnds(t *testing.T) {
	for _, r := range append(goodRunnings(), badRunnings()...) {
		for _, n := range []int{0, 1, 64, 1 << 10} {
			sha.More(r, make([]byte, n))
		}
		sha.End(r)
	}
	for _, c := range []string{"", "0", "a", "\xff", "é", "0x"} {
		for n := range 70 {
			sha.Read(strings.Repeat(c, n))
		}
		sha.Read(strings.Repeat(c, 1<<20))
	}
	sha.Sum(make([][]byte, 1<<20)...)
	sha.Sum(slices.Repeat([][]byte{{1}}, 1<<16)...)
}

// R3: rows that are handed to Sum stay as they are, the room behind their ends, too, and the room behind the last row.
func TestRuleHandedInSum(t *testing.T) {
	for _, n := range edges() {
		b := someBytes(n)[2]
		row, all := withRoom(b)
		saved := slices.Clone(all)
		room := [][]byte{row, row, {1}, {2}, nil}
		want := sha.Sum(b, b)
		if d := sha.Sum(room[:2]...); d != want || !bytes.Equal(all, saved) {
			t.Fatalf("Sum of %d bytes twice: %x", n, d)
		}
		if len(room[0]) != n || len(room[1]) != n || !bytes.Equal(room[2], []byte{1}) || !bytes.Equal(room[3], []byte{2}) || room[4] != nil {
			t.Fatalf("Sum of two rows of %d bytes: the room behind them is %v", n, room[2:])
		}
		clear(all)
		if d := sha.Sum(b, b); d != want {
			t.Fatalf("Sum again: %x", d)
		}
	}
}

// R3: what is handed to More, and to End, stays as it is, the room behind a list's end, too, and is not kept.
func TestRuleHandedInMore(t *testing.T) {
	words := someWords()[1]
	for _, inRest := range []int{0, 1, 55, 56, 63} {
		for _, n := range edges() {
			rest, allRest := withRoom(someBytes(inRest)[2])
			b, allB := withRoom(someBytes(n)[2])
			savedRest, savedB := slices.Clone(allRest), slices.Clone(allB)
			r := api.Running{Words: words, Rest: rest, Many: 64 + uint64(inRest)}
			more, e := sha.More(r, b)
			last, eLast := sha.End(r)
			if e != api.OK || eLast != api.OK || !bytes.Equal(allRest, savedRest) || !bytes.Equal(allB, savedB) {
				t.Fatalf("More, End of %d in Rest, %d bytes: %d %d; what was handed in has changed", inRest, n, e, eLast)
			}
			if r.Words != words || len(r.Rest) != inRest || r.Many != 64+uint64(inRest) {
				t.Fatalf("More, End of %d in Rest, %d bytes: %v", inRest, n, r)
			}
			saved := api.Running{Words: more.Words, Rest: slices.Clone(more.Rest), Many: more.Many}
			clear(allRest)
			clear(allB)
			if !same(more, saved) {
				t.Fatalf("More of %d in Rest, %d bytes: what was handed in is kept", inRest, n)
			}
			copy(allRest, savedRest)
			if again, e := sha.End(r); again != last || e != api.OK {
				t.Fatalf("End of %d in Rest, again: %x %d", inRest, again, e)
			}
		}
	}
}

// R3: what is answered is new memory: written over, and in all its room, it changes nothing else.
func TestRuleNewMemory(t *testing.T) {
	for _, n := range []int{0, 1, 63, 64, 65, 100} {
		b := someBytes(n)[2]
		saved := slices.Clone(b)
		one := goOn(t, sha.Begin(), b)
		two := goOn(t, one, nil)
		for _, r := range []api.Running{one, two} {
			other := goOn(t, r, nil)
			savedOther := slices.Clone(other.Rest)
			clear(r.Rest[:cap(r.Rest)])
			if !bytes.Equal(other.Rest, savedOther) || !bytes.Equal(b, saved) {
				t.Fatalf("More of %d bytes: what is answered shares memory", n)
			}
		}
	}
	begin := sha.Begin()
	begin.Words[0]++
	begin.Rest = append(begin.Rest, 1)
	if again := sha.Begin(); again.Words[0] != 0x6a09e667 || len(again.Rest) != 0 {
		t.Errorf("Begin again: %v", again)
	}
}
