package reloc

import (
	"bytes"
	"math"
)

// becomer tells what a run becomes, and where in that the second prefix was put; or false, if that would have more than so many bytes.
type becomer func(run []byte, most int) ([]byte, []int, bool)

// becoming answers what tells what runs become with to at each place of from.
func becoming(from, to []byte) becomer {
	return func(run []byte, most int) ([]byte, []int, bool) {
		size := len(run)
		for range places(run, from) {
			size += len(to) - len(from)
		}
		// Asked first, so that nothing is put together for which there is no room.
		if size > most {
			return nil, nil, false
		}
		now := make([]byte, 0, size)
		var put []int
		done := 0
		for at := range places(run, from) {
			now = append(now, run[done:at:at]...)
			put = append(put, len(now))
			now = append(now, to...)
			done = at + len(from)
		}
		return append(now, run[done:]...), put, true
	}
}

// moveText answers what a text becomes: it is one run, of however many bytes.
func moveText(data []byte, become becomer) ([]byte, []int, bool) {
	return become(data, math.MaxInt)
}

// moveBinary answers what binary bytes become, or false, if there are not noughts enough.
func moveBinary(data []byte, become becomer) ([]byte, []int, bool) {
	// Where no run is put noughts stay: so behind each run there are as many fewer, or more, as it has grown, or shrunk.
	all := make([]byte, len(data))
	var put []int
	start := 0
	for run, behind := range runs(data) {
		most := len(run) + len(behind)
		end := start + most
		if end < len(data) {
			// Without a nought between them two runs would be one.
			most--
		}
		now, within, is := become(run, most)
		if !is {
			return nil, nil, false
		}
		copy(all[start:end:end], now)
		for _, at := range within {
			put = append(put, start+at)
		}
		start = end
	}
	return all, put, bytes.Contains(all, []byte(nought))
}
