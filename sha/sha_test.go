package sha_test

import (
	"crypto/sha256"
	"encoding"
	"encoding/binary"
	"hash"
	"math/big"
	"slices"
	"strings"
	"testing"

	"puncheon/api"
	"puncheon/sha"
)

// tooMany is how many bytes no sum has.
const tooMany = uint64(1) << 61

// edges are lengths at which the padding, or a block, begins or ends.
func edges() []int {
	return []int{0, 1, 2, 54, 55, 56, 57, 62, 63, 64, 65, 118, 119, 120, 121, 127, 128, 129, 183, 184, 191, 192, 193, 256}
}

// someBytes answers n bytes of several kinds: all noughts, all ones, and such that no two blocks are the same.
func someBytes(n int) [][]byte {
	mixed := make([]byte, n)
	x := uint32(n + 1)
	for at := range mixed {
		x = x*1664525 + 1013904223
		mixed[at] = byte(x >> 24)
	}
	return [][]byte{make([]byte, n), slices.Repeat([]byte{255}, n), mixed}
}

// someWords are words that are not the beginnings.
func someWords() [][8]uint32 {
	return [][8]uint32{
		{},
		{1, 2, 3, 4, 5, 6, 7, 8},
		{1<<32 - 1, 1<<32 - 1, 1<<32 - 1, 1<<32 - 1, 1<<32 - 1, 1<<32 - 1, 1<<32 - 1, 1<<32 - 1},
		{0x6a09e667, 0xbb67ae85, 0x3c6ef372, 0xa54ff53a, 0x510e527f, 0x9b05688c, 0x1f83d9ab, 0x5be0cd18},
		{0x80000000, 0x7fffffff, 1, 0xfffffffe, 0x01020304, 0xdeadbeef, 0, 0x10000},
	}
}

// reference is the library's sum, going on from r.
func reference(t *testing.T, r api.Running) hash.Hash {
	t.Helper()
	state := []byte("sha\x03")
	for _, x := range r.Words {
		state = binary.BigEndian.AppendUint32(state, x)
	}
	var block [64]byte
	copy(block[:], r.Rest)
	state = append(state, block[:]...)
	state = binary.BigEndian.AppendUint64(state, r.Many)
	h := sha256.New()
	if err := h.(encoding.BinaryUnmarshaler).UnmarshalBinary(state); err != nil {
		t.Fatal(err)
	}
	return h
}

// wordsOf are the words of the library's sum behind whole blocks.
func wordsOf(t *testing.T, blocks []byte) [8]uint32 {
	t.Helper()
	h := sha256.New()
	h.Write(blocks)
	state, err := h.(encoding.BinaryMarshaler).MarshalBinary()
	if err != nil {
		t.Fatal(err)
	}
	var words [8]uint32
	for n := range words {
		words[n] = binary.BigEndian.Uint32(state[4+4*n:])
	}
	return words
}

// same tells whether two sums that go on are one.
func same(a, b api.Running) bool {
	return a.Words == b.Words && slices.Equal(a.Rest, b.Rest) && a.Many == b.Many
}

// rootOf answers the first 32 bits behind the point of the root of p of that degree, by integers as long as need be.
func rootOf(p int64, degree int64) uint32 {
	q := new(big.Int).Lsh(big.NewInt(p), uint(32*degree))
	x := new(big.Int)
	for bit := 40; bit >= 0; bit-- {
		x.SetBit(x, bit, 1)
		if new(big.Int).Exp(x, big.NewInt(degree), nil).Cmp(q) > 0 {
			x.SetBit(x, bit, 0)
		}
	}
	return uint32(x.Uint64())
}

// firstPrimes answers the first n primes.
func firstPrimes(n int) []int64 {
	var l []int64
	for p := int64(2); len(l) < n; p++ {
		if big.NewInt(p).ProbablyPrime(0) {
			l = append(l, p)
		}
	}
	return l
}

// goodRunnings are sums that go on that may be, at the edges of what may be among others.
func goodRunnings() []api.Running {
	beginnings := sha.Begin().Words
	all := []api.Running{{Words: beginnings}, {Words: beginnings, Rest: []byte{}}, {Words: beginnings, Many: 64}}
	for _, n := range []int{1, 2, 55, 56, 62, 63} {
		for _, rest := range someBytes(n) {
			all = append(all, api.Running{Words: beginnings, Rest: rest, Many: uint64(n)})
		}
	}
	for _, words := range append(someWords(), beginnings) {
		for _, many := range []uint64{64, 65, 119, 120, 127, 128, 1 << 29, 1<<29 - 1, 1 << 32, 1<<32 + 55, 1<<32 + 56, 1<<60 + 1, tooMany - 129, tooMany - 128, tooMany - 65, tooMany - 64, tooMany - 63, tooMany - 2, tooMany - 1} {
			for _, rest := range someBytes(int(many % 64)) {
				all = append(all, api.Running{Words: words, Rest: rest, Many: many})
			}
		}
	}
	return all
}

// badRunnings may not be.
func badRunnings() []api.Running {
	beginnings := sha.Begin().Words
	all := []api.Running{{}}
	for _, many := range []uint64{0, 1, 55, 62, 63, 64, 65, 127, 128, 129, 1 << 32, tooMany - 64, tooMany - 1} {
		right := int(many % 64)
		for n := range 130 {
			if n != right {
				all = append(all, api.Running{Words: beginnings, Rest: make([]byte, n), Many: many})
			}
		}
		all = append(all, api.Running{Words: beginnings, Rest: make([]byte, right+64), Many: many}, api.Running{Words: beginnings, Rest: make([]byte, right+1<<16), Many: many})
	}
	for _, many := range []uint64{tooMany, tooMany + 1, tooMany + 63, tooMany + 64, 1 << 62, 1 << 63, 1<<64 - 64, 1<<64 - 1} {
		for _, words := range append(someWords(), beginnings) {
			all = append(all, api.Running{Words: words, Rest: make([]byte, many%64), Many: many}, api.Running{Words: words, Rest: make([]byte, (many+1)%64), Many: many})
		}
	}
	for n := range 64 {
		for _, words := range someWords() {
			all = append(all, api.Running{Words: words, Rest: make([]byte, n), Many: uint64(n)})
		}
		for at := range beginnings {
			words := beginnings
			words[at] ^= 1 << (n % 32)
			all = append(all, api.Running{Words: words, Rest: make([]byte, n), Many: uint64(n)})
		}
	}
	return all
}

// P3.1: Sum, of bytes whose sums are known.
func TestSum(t *testing.T) {
	for text, want := range map[string]string{
		"":    "e3b0c44298fc1c149afbf4c8996fb92427ae41e4649b934ca495991b7852b855",
		"a":   "ca978112ca1bbdcafac231b39a23dc4da786eff8147c4e72b9807785afee48bb",
		"abc": "ba7816bf8f01cfea414140de5dae2223b00361a396177a9cb410ff61f20015ad",
		"abcdbcdecdefdefgefghfghighijhijkijkljklmklmnlmnomnopnopq":                                                         "248d6a61d20638b8e5c026930c3e6039a33ce45964ff2167f6ecedd419db06c1",
		"abcdefghbcdefghicdefghijdefghijkefghijklfghijklmghijklmnhijklmnoijklmnopjklmnopqklmnopqrlmnopqrsmnopqrstnopqrstu": "cf5b16a778af8380036ce59e7b0492370b249b11e8f07a51afac45037afee9d1",
		strings.Repeat("a", 1000000): "cdc76e5c9914fb9281a1c7e284d73e67f1809a48a497200e046d39ccc7112cd0",
		"\xbd":                       "68325720aabd7c82f30f554b313d0570c95accbb7dc4b5aae11204c08ffe732b",
		"\xc9\x8c\x8e\x55":           "7abc22c0ae5af26ce93dbb94433a0e0b2e119d014f8e7f65bd56c61ccccd9504",
		strings.Repeat("\x00", 55):   "02779466cdec163811d078815c633f21901413081449002f24aa3e80f0b88ef7",
		strings.Repeat("\x00", 56):   "d4817aa5497628e7c77e6b606107042bbba3130888c5f47a375e6179be789fbb",
		strings.Repeat("\x00", 57):   "65a16cb7861335d5ace3c60718b5052e44660726da4cd13bb745381b235a1785",
		strings.Repeat("\x00", 64):   "f5a5fd42d16a20302798ef6ed309979b43003d2320d9f0e8ea9831a92759fb4b",
		strings.Repeat("\x00", 1000): "541b3e9daa09b20bf85fa273e5cbd3e80185aa4ec298e765db87742b70138a53",
		strings.Repeat("A", 1000):    "c2e686823489ced2017f6059b8b239318b6364f6dcd835d0a519105a1eadd6e4",
		strings.Repeat("U", 1005):    "f4d62ddec0f3dd90ea1380fa16a5ff8dc4c54b21740650f24afc4120903552b0",
	} {
		if s := sha.Text(sha.Sum([]byte(text))); s != want {
			t.Errorf("Sum of %d bytes, %.20q: %s", len(text), text, s)
		}
	}
}

// P3.1: Sum, of as many bytes as stand at the edges of blocks, and all between.
func TestSumEachLength(t *testing.T) {
	for n := range 400 {
		for _, b := range someBytes(n) {
			if d := sha.Sum(b); d != sha256.Sum256(b) {
				t.Errorf("Sum of %d bytes, %.20q: %x", n, b, d)
			}
		}
	}
	for _, n := range []int{1 << 13, 1<<16 + 55, 1<<21 + 56} {
		for _, b := range someBytes(n) {
			if d := sha.Sum(b); d != sha256.Sum256(b) {
				t.Errorf("Sum of %d bytes: %x", n, d)
			}
		}
	}
}

// P3.1: Sum, of each bit another one.
func TestSumEachBit(t *testing.T) {
	for _, n := range []int{1, 55, 56, 64, 128} {
		for bit := range 8 * n {
			b := make([]byte, n)
			b[bit/8] = 1 << (bit % 8)
			if d := sha.Sum(b); d != sha256.Sum256(b) {
				t.Fatalf("Sum of %d bytes, of which the bit at %d is one: %x", n, bit, d)
			}
		}
	}
}

// P3.1: Sum, of no rows, of rows without bytes, of rows cut at every place.
func TestSumRows(t *testing.T) {
	none := sha256.Sum256(nil)
	for _, l := range [][][]byte{nil, {}, {nil}, {{}}, {nil, {}, nil}, make([][]byte, 1000)} {
		if d := sha.Sum(l...); d != none {
			t.Errorf("Sum of %d rows without bytes: %x", len(l), d)
		}
	}
	for _, n := range edges() {
		b := someBytes(n)[2]
		want := sha256.Sum256(b)
		for cut := range n + 1 {
			for _, l := range [][][]byte{{b[:cut], b[cut:]}, {nil, b[:cut], {}, b[cut:], nil}, {b[:cut/2], b[cut/2 : cut], b[cut:]}} {
				if d := sha.Sum(l...); d != want {
					t.Errorf("Sum of %d bytes, cut at %d, %d rows: %x", n, cut, len(l), d)
				}
			}
		}
		if d := sha.Sum(slices.Collect(slices.Chunk(b, 1))...); d != want {
			t.Errorf("Sum of %d rows of a byte: %x", n, d)
		}
	}
	if a, b := sha.Sum([]byte("a"), []byte("bc")), sha.Sum([]byte("bc"), []byte("a")); a == b {
		t.Errorf("Sum in another order: %x", a)
	}
}

// P3.1: Constants, the cube roots of the first 64 primes.
func TestConstants(t *testing.T) {
	constants := sha.Constants()
	for n, p := range firstPrimes(64) {
		if constants[n] != rootOf(p, 3) {
			t.Errorf("the constant at %d, of %d: %x", n, p, constants[n])
		}
	}
	for n, want := range map[int]uint32{0: 0x428a2f98, 1: 0x71374491, 15: 0xc19bf174, 16: 0xe49b69c1, 31: 0x14292967, 62: 0xbef9a3f7, 63: 0xc67178f2} {
		if constants[n] != want {
			t.Errorf("the constant at %d: %x", n, constants[n])
		}
	}
	constants[0] = 0
	if again := sha.Constants(); again[0] != 0x428a2f98 {
		t.Errorf("Constants again: %x", again[0])
	}
}

// P3.2: Begin, the square roots of the first eight primes.
func TestBegin(t *testing.T) {
	r := sha.Begin()
	if len(r.Rest) != 0 || r.Many != 0 {
		t.Errorf("Begin: %v", r)
	}
	for n, p := range firstPrimes(8) {
		if r.Words[n] != rootOf(p, 2) {
			t.Errorf("the beginning at %d, of %d: %x", n, p, r.Words[n])
		}
	}
	if want := [8]uint32{0x6a09e667, 0xbb67ae85, 0x3c6ef372, 0xa54ff53a, 0x510e527f, 0x9b05688c, 0x1f83d9ab, 0x5be0cd19}; r.Words != want {
		t.Errorf("Begin: %x", r.Words)
	}
	if d, e := sha.End(r); d != sha256.Sum256(nil) || e != api.OK {
		t.Errorf("End of Begin: %x %d", d, e)
	}
}

// P3.2: More and End, of bytes cut at every place: what goes on is just that of the bytes, as the chapter's Words have it.
func TestMore(t *testing.T) {
	for _, n := range edges() {
		for _, b := range someBytes(n) {
			for cut := range n + 1 {
				r := sha.Begin()
				for _, part := range [][]byte{b[:cut], nil, b[cut:], {}} {
					var e api.Errno
					if r, e = sha.More(r, part); e != api.OK {
						t.Fatalf("More: %d", e)
					}
					done := b[:r.Many]
					whole := len(done) / 64 * 64
					if want := (api.Running{Words: wordsOf(t, b[:whole]), Rest: done[whole:], Many: uint64(len(done))}); !same(r, want) {
						t.Fatalf("More of %d bytes, cut at %d: %v, not %v", n, cut, r, want)
					}
				}
				if d, e := sha.End(r); r.Many != uint64(n) || d != sha256.Sum256(b) || e != api.OK {
					t.Fatalf("End of %d bytes, cut at %d: %x %d", n, cut, d, e)
				}
			}
		}
	}
}

// P3.2: More and End, of all sums that go on that may be, whatever bytes they were.
func TestMoreOfAnyWords(t *testing.T) {
	for _, r := range goodRunnings() {
		for _, n := range []int{0, 1, 8, 9, 63, 64, 65, 200} {
			if r.Many+uint64(n) >= tooMany {
				continue
			}
			b := someBytes(n)[2]
			h := reference(t, r)
			h.Write(b)
			more, e := sha.More(r, b)
			if e != api.OK || more.Many != r.Many+uint64(n) || uint64(len(more.Rest)) != more.Many%64 {
				t.Fatalf("More(%v, %d bytes): %v %d", r, n, more, e)
			}
			if d, e := sha.End(more); d != api.Digest(h.Sum(nil)) || e != api.OK {
				t.Fatalf("End of More(%v, %d bytes): %x %d", r, n, d, e)
			}
		}
	}
}

// P3.2: More, how many bytes there may be.
func TestMoreErrLong(t *testing.T) {
	for _, left := range []int{1, 2, 63, 64, 65, 128, 1000} {
		many := tooMany - uint64(left)
		for _, words := range append(someWords(), sha.Begin().Words) {
			r := api.Running{Words: words, Rest: make([]byte, many%64), Many: many}
			for _, n := range []int{0, left / 2, left - 1} {
				if more, e := sha.More(r, make([]byte, n)); e != api.OK || more.Many != many+uint64(n) {
					t.Errorf("More, %d of %d bytes left: %v %d", n, left, more, e)
				}
			}
			for _, n := range []int{left, left + 1, left + 63, left + 64, 2 * left, left + 1<<16} {
				if more, e := sha.More(r, make([]byte, n)); e != api.ErrLong || !same(more, api.Running{}) {
					t.Errorf("More, %d of %d bytes left: %v %d", n, left, more, e)
				}
			}
		}
	}
}

// P3.2: More and End, of what may not be; More says it ahead of ErrLong.
func TestMoreEndErrDigest(t *testing.T) {
	for _, r := range badRunnings() {
		for _, b := range [][]byte{nil, {0}, make([]byte, 63), make([]byte, 64), make([]byte, 200)} {
			if more, e := sha.More(r, b); e != api.ErrDigest || !same(more, api.Running{}) {
				t.Errorf("More(%x, %d in Rest, Many %d; %d bytes): %v %d", r.Words, len(r.Rest), r.Many, len(b), more, e)
			}
		}
		if d, e := sha.End(r); e != api.ErrDigest || d != (api.Digest{}) {
			t.Errorf("End(%x, %d in Rest, Many %d): %x %d", r.Words, len(r.Rest), r.Many, d, e)
		}
	}
}

// P3.2: End, of one byte less than are too many.
func TestEndOfMost(t *testing.T) {
	r := api.Running{Words: someWords()[1], Rest: someBytes(63)[2], Many: tooMany - 1}
	if d, e := sha.End(r); d != api.Digest(reference(t, r).Sum(nil)) || e != api.OK {
		t.Errorf("End of 2^61 - 1 bytes: %x %d", d, e)
	}
	r.Rest, r.Many = nil, tooMany
	if d, e := sha.End(r); d != (api.Digest{}) || e != api.ErrDigest {
		t.Errorf("End of 2^61 bytes: %x %d", d, e)
	}
}

// P3.3: Text and Read, of each byte at each place.
func TestTextRead(t *testing.T) {
	noughts := strings.Repeat("00", 32)
	for at := range 32 {
		for n := range 256 {
			var d api.Digest
			d[at] = byte(n)
			digits := "0123456789abcdef"[n/16:n/16+1] + "0123456789abcdef"[n%16:n%16+1]
			want := noughts[:2*at] + digits + noughts[2*at+2:]
			if s := sha.Text(d); s != want {
				t.Errorf("Text, the byte at %d is %d: %s", at, n, s)
			}
			if back, e := sha.Read(want); back != d || e != api.OK {
				t.Errorf("Read(%s): %x %d", want, back, e)
			}
		}
	}
	mixed := "00112233445566778899aabbccddeeff0123456789abcdeffedcba9876543210"
	want := api.Digest{0x00, 0x11, 0x22, 0x33, 0x44, 0x55, 0x66, 0x77, 0x88, 0x99, 0xaa, 0xbb, 0xcc, 0xdd, 0xee, 0xff, 0x01, 0x23, 0x45, 0x67, 0x89, 0xab, 0xcd, 0xef, 0xfe, 0xdc, 0xba, 0x98, 0x76, 0x54, 0x32, 0x10}
	if d, e := sha.Read(mixed); d != want || e != api.OK || sha.Text(want) != mixed {
		t.Errorf("Read(%s): %x %d; Text: %s", mixed, d, e, sha.Text(want))
	}
}

// P3.3: Read, of a byte that is no digit, at each place, great letters among them.
func TestReadOtherBytes(t *testing.T) {
	text := "00112233445566778899aabbccddeeff0123456789abcdeffedcba9876543210"
	for at := range len(text) {
		for n := range 256 {
			c := string([]byte{byte(n)})
			if strings.Contains("0123456789abcdef", c) {
				continue
			}
			s := text[:at] + c + text[at+1:]
			if d, e := sha.Read(s); d != (api.Digest{}) || e != api.ErrDigest {
				t.Errorf("Read(%q): %x %d", s, d, e)
			}
		}
		for _, c := range []string{"é", "٣", "３", "ａ"} {
			if s := text[:at] + c + text[at:]; len(s) >= 64 {
				if d, e := sha.Read(s[:64]); d != (api.Digest{}) || e != api.ErrDigest {
					t.Errorf("Read(%q): %x %d", s[:64], d, e)
				}
			}
		}
	}
}

// P3.3: Read, of texts of other lengths.
func TestReadOtherLengths(t *testing.T) {
	for n := range 200 {
		s := strings.Repeat("a", n)
		d, e := sha.Read(s)
		if n == 64 && (d != api.Digest(slices.Repeat([]byte{0xaa}, 32)) || e != api.OK) {
			t.Errorf("Read of %d digits: %x %d", n, d, e)
		}
		if n != 64 && (d != (api.Digest{}) || e != api.ErrDigest) {
			t.Errorf("Read of %d digits: %x %d", n, d, e)
		}
	}
	good := strings.Repeat("a", 64)
	for _, s := range []string{" " + good, good + " ", good + "\n", "0x" + good[:62], "0x" + good, strings.ToUpper(good), strings.Repeat("é", 32), strings.Repeat(good, 1<<16)} {
		if d, e := sha.Read(s); d != (api.Digest{}) || e != api.ErrDigest {
			t.Errorf("Read(%.80q): %x %d", s, d, e)
		}
	}
}

// The rows of the chapter's Examples, as they stand there.
func TestChapterExamples(t *testing.T) {
	if s := sha.Text(sha.Sum()); s != "e3b0c44298fc1c149afbf4c8996fb92427ae41e4649b934ca495991b7852b855" {
		t.Errorf("Text(Sum()): %s", s)
	}
	s := sha.Text(sha.Sum([]byte("a"), []byte("bc")))
	if s != "ba7816bf8f01cfea414140de5dae2223b00361a396177a9cb410ff61f20015ad" {
		t.Errorf("Text(Sum(a, bc)): %s", s)
	}
	if c := sha.Constants(); c[0] != 0x428a2f98 || c[63] != 0xc67178f2 {
		t.Errorf("Constants: %x, %x", c[0], c[63])
	}
	if d, e := sha.Read(strings.Replace(s, "b", "B", 1)); d != (api.Digest{}) || e != api.ErrDigest {
		t.Errorf("Read of a great letter: %x %d", d, e)
	}
	if d, e := sha.Read(s[:63]); d != (api.Digest{}) || e != api.ErrDigest {
		t.Errorf("Read of 63 digits: %x %d", d, e)
	}
}
