package tape

import (
	"iter"
	"math"
	"strconv"
	"strings"

	"puncheon/api"
)

// What stands behind a part's digits tells its sort.
const (
	endOfNumber = ';'
	endOfLength = ':'
)

// taken is what Take answers at one place of a row.
type taken struct {
	part api.Part
	e    api.Errno
}

// takes tells part by part what is taken of s, with its place; with an error it ends.
func takes(s string) iter.Seq2[int, taken] {
	return func(yield func(int, taken) bool) {
		for at := 0; at < len(s); {
			p, rest, e := Take(s[at:])
			if !yield(at, taken{p, e}) || e != api.OK {
				return
			}
			at = len(s) - len(rest)
		}
	}
}

// gather answers what pick finds in each part of the row s; one in which it finds nothing is of the other sort.
func gather[T any](s string, pick func(api.Part) (T, bool)) ([]T, api.Errno) {
	parts, _, e := All(s)
	if e != api.OK {
		return nil, e
	}
	l := make([]T, 0, len(parts))
	for _, p := range parts {
		v, is := pick(p)
		if !is {
			return nil, api.ErrTape
		}
		l = append(l, v)
	}
	return l, api.OK
}

// say puts behind the row what p says.
func say(row *strings.Builder, p api.Part) {
	if !p.IsText {
		row.WriteString(strconv.FormatUint(p.Number, 10))
		row.WriteByte(endOfNumber)
		return
	}
	row.WriteString(strconv.Itoa(len(p.Text)))
	row.WriteByte(endOfLength)
	row.WriteString(p.Text)
}

// digits reads the digits with which s begins: their number, and how many they are. It tells false if a nought stands ahead of another one, or the number is too great: no end of s could mend that.
func digits(s string) (n uint64, width int, is bool) {
	for at, r := range s {
		if r < '0' || '9' < r {
			break
		}
		d := uint64(r - '0')
		nought := at > 0 && n == 0
		if nought || n > (math.MaxUint64-d)/10 {
			return 0, 0, false
		}
		n = 10*n + d
		width = at + 1
	}
	return n, width, true
}
