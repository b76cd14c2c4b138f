package sha

import (
	"bytes"
	"slices"

	"puncheon/api"
)

// blockSize is how many bytes a block has.
const blockSize = 64

// tooMany is how many bytes have more bits than the padding's eight bytes can tell.
const tooMany = 1 << 61

// valid tells whether r may be.
func valid(r api.Running) bool {
	if r.Many >= tooMany || uint64(len(r.Rest)) != r.Many%blockSize {
		return false
	}
	return r.Many >= blockSize || r.Words == beginnings()
}

// padding answers what stands behind so many bytes in the padded bytes.
func padding(many uint64) []byte {
	noughts := (blockSize + 56 - (many+1)%blockSize) % blockSize
	pad := make([]byte, 1+noughts, 1+noughts+8)
	pad[0] = 128
	for shift := 56; shift >= 0; shift -= 8 {
		pad = append(pad, byte(many<<3>>shift))
	}
	return pad
}

// takeIn answers the words behind the whole blocks of the rows, one row behind the other, and the bytes behind these blocks.
func takeIn(words [8]uint32, rows ...[]byte) ([8]uint32, []byte) {
	rest := slices.Concat(rows...)
	if len(rest) < blockSize {
		return words, rest
	}
	constants := Constants()
	for len(rest) >= blockSize {
		words = mix(words, constants, rest[:blockSize:blockSize])
		rest = rest[blockSize:]
	}
	// A copy, so that a few bytes do not keep the memory of all.
	return words, bytes.Clone(rest)
}

// mix takes one block in.
func mix(words [8]uint32, constants [64]uint32, block []byte) [8]uint32 {
	numbers := spread(block)
	a, b, c, d, e, f, g, h := words[0], words[1], words[2], words[3], words[4], words[5], words[6], words[7]
	for t, constant := range constants {
		p := h + (turn(e, 6) ^ turn(e, 11) ^ turn(e, 25)) + (e&f ^ ^e&g) + constant + numbers[t]
		q := (turn(a, 2) ^ turn(a, 13) ^ turn(a, 22)) + (a&b ^ a&c ^ b&c)
		a, b, c, d, e, f, g, h = p+q, a, b, c, d+p, e, f, g
	}
	for n, x := range [8]uint32{a, b, c, d, e, f, g, h} {
		words[n] += x
	}
	return words
}

// spread answers the 64 numbers of a block.
func spread(block []byte) [64]uint32 {
	var w [64]uint32
	for t := range 16 {
		four := block[4*t : 4*t+4 : 4*t+4]
		w[t] = uint32(four[0])<<24 | uint32(four[1])<<16 | uint32(four[2])<<8 | uint32(four[3])
	}
	for t := 16; t < len(w); t++ {
		x, y := w[t-15], w[t-2]
		u := turn(x, 7) ^ turn(x, 18) ^ x>>3
		v := turn(y, 17) ^ turn(y, 19) ^ y>>10
		w[t] = w[t-16] + u + w[t-7] + v
	}
	return w
}

// turn answers x, its lowest n bits taken away and put ahead of all others.
func turn(x uint32, n int) uint32 {
	return x>>n | x<<(32-n)
}

// digest answers the words, four bytes each, the highest first.
func digest(words [8]uint32) api.Digest {
	var d api.Digest
	for n := range d {
		d[n] = byte(words[n/4] >> (24 - 8*(n%4)))
	}
	return d
}
