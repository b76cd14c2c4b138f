package reloc

import (
	"bytes"
	"iter"
)

// nought is the byte that stands in no prefix, and by which bytes are binary.
const nought = "\x00"

// places tells the places of a prefix in data, rising.
func places(data, prefix []byte) iter.Seq[int] {
	return func(yield func(at int) bool) {
		at := 0
	search:
		for at+len(prefix) <= len(data) {
			for n, b := range prefix {
				if data[at+n] != b {
					at++
					continue search
				}
			}
			if !yield(at) {
				break search
			}
			at += len(prefix)
		}
	}
}

// runs tells the runs of binary data, each with the noughts behind it. Noughts ahead of the first run are told as if they stood behind one of no bytes.
func runs(data []byte) iter.Seq2[[]byte, []byte] {
	return func(yield func(run, behind []byte) bool) {
		for len(data) > 0 {
			end := bytes.Index(data, []byte(nought))
			if end < 0 {
				end = len(data)
			}
			rest := bytes.TrimLeft(data[end:], nought)
			next := len(data) - len(rest)
			if !yield(data[:end:end], data[end:next:next]) {
				return
			}
			data = rest
		}
	}
}
